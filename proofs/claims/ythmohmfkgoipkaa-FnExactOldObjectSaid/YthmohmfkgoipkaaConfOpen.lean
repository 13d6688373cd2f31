/-
  A config that is handed in, opened.
-/
import Derived.Test.YthmohmfkgoipkaaStrsOpen
import Derived.Test.YthmohmfkgoipkaaConf
namespace Go.Proofs.Ythmohmfkgoipkaa.kinds
open Go.ChangeShapes Go.WideShapes Go.RowKit Go.Joins Go.Deep

set_option maxRecDepth 100000 in
theorem config_of {H : Type} {enc : TypeId × Value → H} {W : World} {r : Reach} {b0 : Nat} {base : Nat} {sp : Nat → Bool} {held : Bool} {v : Value} {d : DataW H} {p : List MemPlace}
    (hv : Value.okWide Try.prog W r b0 24 v) (h : DataW.Trod enc Try.prog W base sp held 24 v d p) :
    ∃ (n1 n2 n3 : Int) (a : Option Addr) (cap : Nat) (xs : List ByteArray), v = .agg #[.int .i64 n1, .int .i64 n2, .int .i64 n3, .slice a xs.length cap] ∧ (Lit.int .i64 n1).wf = true ∧ (Lit.int .i64 n2).wf = true ∧ (Lit.int .i64 n3).wf = true ∧ Strs W a xs ∧ xs.length ≤ maxLen ∧ ∀ i (hi : i < xs.length), xs[i].size ≤ maxLen := by
  obtain ⟨c0, c1, c2, c3, y0, y1, y2, y3, n, rfl, rfl, rfl, h0, h1, h2, h3⟩ := open_agg4 Try.underlying24 (by kernel_rfl) (by kernel_rfl) hv h
  obtain ⟨n1, e0, _, w1⟩ := DataW.trod_int Try.underlying2 (show DataW.trod enc Try.prog W base sp held n 2 [c0] = some y0 from h0)
  obtain ⟨n2, e1, _, w2⟩ := DataW.trod_int Try.underlying2 (show DataW.trod enc Try.prog W base sp held n 2 [c1] = some y1 from h1)
  obtain ⟨n3, e2, _, w3⟩ := DataW.trod_int Try.underlying2 (show DataW.trod enc Try.prog W base sp held n 2 [c2] = some y2 from h2)
  obtain ⟨a, cap, xs, e3, hl, hm, hz⟩ := strs_cells (show DataW.trod enc Try.prog W base sp held n 22 [c3] = some y3 from h3)
  simp at e0 e1 e2 e3
  subst e0 e1 e2 e3
  exact ⟨n1, n2, n3, a, cap, xs, rfl, w1, w2, w3, hl, hm, hz⟩
end Go.Proofs.Ythmohmfkgoipkaa.kinds
