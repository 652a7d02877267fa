/-
  What package op answers, in one text to import: what is told of a code (op_of), what is found of a name (op_code), which codes have to do with floats (op_float), which instructions are right (op_right). No statement is proved here.
-/
import Derived.Test.YtjpcobfaojjceaaDoorOpFind
import Derived.Test.YtjpcobfaojjceaaDoorOpFit
