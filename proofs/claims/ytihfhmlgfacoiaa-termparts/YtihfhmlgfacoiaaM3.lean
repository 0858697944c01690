import Derived.Test.YtihfhmlgfacoiaaW28
import Derived.Test.YtihfhmlgfacoiaaW20
namespace Go.Proofs.Ytihfhmlgfacoiaa
open Go.RowKit
set_option linter.unusedVariables false
set_option linter.unusedSimpArgs false

/-- The Pair of two terms that One answers may be. -/
theorem pair_may (ns ms : List Int) : may ⟨7, 0, ByteArray.empty⟩ (.node 0 0 (tapeT ms 4 0).1.1 (tapeT ms 4 0).1.2 (.node 0 0 (tapeT ns 4 0).1.1 (tapeT ns 4 0).1.2 .nil)) = true := by
  have h1 := tape_may ms 4 0 2 1 (by decide) (by decide)
  have hB : mayB ⟨7, 0, ByteArray.empty⟩ (flen (.node 0 0 (tapeT ms 4 0).1.1 (tapeT ms 4 0).1.2 (.node 0 0 (tapeT ns 4 0).1.1 (tapeT ns 4 0).1.2 .nil))) 1 0 = true := by simp [mayB, formedB, kidsOf, flen, emp_list']
  rw [may, mayT_of _ _ _ _ hB, mayF_node]
  rw [if_pos (by simpa using h1.1)]
  have h2 := tape_may ns 4 0 2 (mayT (tapeT ms 4 0).1.1 (tapeT ms 4 0).1.2 2 1).2 (by have := h1.2; simp at this ⊢; omega) (by decide)
  rw [mayF_node]
  rw [if_pos (by simpa using h2.1)]
  rw [mayF]

/-- A Pair has its second part. -/
theorem pair_has (a : Nd) (l : Fo) (b : Nd) (m : Fo) (p : Nd) : missT a l p (.node 0 0 b m (.node 0 0 a l .nil)) = false := by
  have h : missT a l a l = false := by rw [missT, ordT_self]; rfl
  rw [missT, missF_node, missF_node, h]
  simp

/-- What the program's Nonces and the other one answer is one row. -/
theorem nonces_one (a : Nd) (l : Fo) (zs : List Int) (h : NonOf (nonT a l) zs) : nonces a l = zs :=
  rise_unique _ _ (nonces_rise a l).1 h.1 fun x => by rw [(nonces_rise a l).2, h.2.1]

end Go.Proofs.Ytihfhmlgfacoiaa
