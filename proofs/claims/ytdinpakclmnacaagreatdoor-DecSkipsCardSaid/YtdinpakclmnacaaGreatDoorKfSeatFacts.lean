/-
  Facts and contracts that the proof calls.
-/
import Derived.Test.YtdinpakclmnacaaGreatDoorRows
import Derived.JoinedOf
namespace Go.Proofs.YtdinpakclmnacaaGreatDoor
set_option maxRecDepth 100000
set_option maxHeartbeats 16000000
open Go
theorem seat_laid : laidOutB Tryz.prog = true := by kernel_rfl
theorem seat_maps : mapsRowed Tryz.prog = true := by kernel_rfl
theorem seat_stops : (Tryz.prog.stops == []) = true := by kernel_rfl
theorem seat_knobs : (Tryz.prog.stopKnobs == []) = true := by kernel_rfl
theorem seat_heard : Tryz.prog.stopsHeard = true := by kernel_rfl
theorem seat_enter : Tryz.prog.mayEnter = true := by kernel_rfl
end Go.Proofs.YtdinpakclmnacaaGreatDoor
