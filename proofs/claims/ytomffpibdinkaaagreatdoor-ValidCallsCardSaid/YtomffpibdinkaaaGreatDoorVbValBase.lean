/-
  What the walks of package valid take of the earlier stages, by names. No statement is proved here.
-/
import Derived.Test.YtomffpibdinkaaaGreatDoorVbModRight
import Derived.Test.YtomffpibdinkaaaGreatDoorVbStrOwn
import Derived.Test.YtomffpibdinkaaaGreatDoorVbEncSpec
namespace Go.Proofs.YtomffpibdinkaaaGreatDoor
set_option maxRecDepth 100000
set_option maxHeartbeats 16000000
theorem val_base : True := trivial -- mod_right MadeAt.modAt MadeAt.codeAt MadeAt.insAt rows_block code_cells made_fn made_of op_of codeF_ne MadeAt madeV ModAt own_low own_ge heap_in step_code step_bytes step_string wpl_string wpl_bytes run_string_at own_string rows_own flat_at byte_of RowsAt FnAt InsAt CodeAt StepsAt Laid runs_open runs_else runs_end runs_end_none runs_other byCode_6 results_one_cell enters_of info_parts codeF_ne runF does_st shut_st Good okPI_right okPI_other vrun validFn nest7 codeCells_len mod_structured infoInt bs_list9
end Go.Proofs.YtomffpibdinkaaaGreatDoor
