import Derived.Test.YtfoeeocejcbmlaaGreatDoorE6
namespace Go.Proofs.YtfoeeocejcbmlaaGreatDoor
open Go.RowKit
set_option linter.unusedVariables false
set_option linter.unusedSimpArgs false

/-- Enc and Dec, in whatever world comes of the first one. -/
theorem enc_at {w : World} (ht : Tab16 w.heap.size w) (s : ByteArray) (hs : s.size ≤ 1000000) (form : Bool) (t : ByteArray) (e : encS form s = t) (W : World) (hW : Below w.heap.size w W) :
    Calls Tryz.prog 62 #[.string s, .bool form] W fun e w' => e = .returned (.string t) ∧ Below W.heap.size W w' := by
  subst e
  exact enc_any s hs form w.heap.size W (ht.on hW) hW.size

theorem dec_at {w : World} (ht : Tab16 w.heap.size w) (s : ByteArray) (hs : s.size ≤ 1000000) (form : Bool) (t : ByteArray) (n : Int) (e : decX form s = t) (e2 : decN form s = n) (W : World) (hW : Below w.heap.size w W) :
    Calls Tryz.prog 87 #[.string s, .bool form] W fun e w' => e = .returned (.tuple #[.string t, .int .i64 n]) ∧ Below W.heap.size W w' := by
  subst e e2
  exact dec_any s hs form w.heap.size W (ht.on hW) hW.size

end Go.Proofs.YtfoeeocejcbmlaaGreatDoor
