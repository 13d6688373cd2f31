/-
  A record that is handed in, opened; its copy and its size.
-/
import Derived.Test.YthigmppalpkadaaDoorRecord
import Derived.ProofKit
import Derived.OpenShut
import Derived.ShutString
import Derived.ChangeOld
import Derived.Lib.SmallJoins
import Derived.Deep.Slices
import Derived.Deep.Strs
namespace Go.Proofs.YthigmppalpkadaaDoor.crc
open Go.ChangeShapes Go.WideShapes Go.RowKit Go.Joins Go.Deep

theorem record_of {H : Type} {enc : TypeId × Value → H} {W : World} {r : Reach} {b0 : Nat} {base : Nat} {sp : Nat → Bool} {held : Bool} {v : Value} {d : DataW H} {p : List MemPlace}
    (hv : Value.okWide Tryd.prog W r b0 49 v) (h : DataW.Trod enc Tryd.prog W base sp held 49 v d p) :
    ∃ (n1 n2 n3 : Int) (s : ByteArray), v = .agg #[.int .i64 n1, .int .i64 n2, .int .i64 n3, .string s] ∧ s.size ≤ maxLen := by
  obtain ⟨c0, c1, c2, c3, y0, y1, y2, y3, n, rfl, rfl, rfl, h0, h1, h2, h3⟩ := open_agg4 Tryd.underlying49 (by kernel_rfl) (by kernel_rfl) hv h
  obtain ⟨n1, e0, _, w1⟩ := DataW.trod_int Tryd.underlying2 (show DataW.trod enc Tryd.prog W base sp held n 2 [c0] = some y0 from h0)
  obtain ⟨n2, e1, _, w2⟩ := DataW.trod_int Tryd.underlying2 (show DataW.trod enc Tryd.prog W base sp held n 2 [c1] = some y1 from h1)
  obtain ⟨n3, e2, _, w3⟩ := DataW.trod_int Tryd.underlying2 (show DataW.trod enc Tryd.prog W base sp held n 2 [c2] = some y2 from h2)
  obtain ⟨s, e3, _, hs⟩ := DataW.trod_string Tryd.underlying9 (show DataW.trod enc Tryd.prog W base sp held n 9 [c3] = some y3 from h3)
  simp at e0 e1 e2 e3
  subst e0 e1 e2 e3
  exact ⟨n1, n2, n3, s, rfl, hs⟩
theorem szRecord_any (w : World) (n1 n2 n3 : Int) (s : ByteArray) (hs : s.size ≤ maxLen) :
    Calls Tryd.prog 37 #[.agg #[.int .i64 n1, .int .i64 n2, .int .i64 n3, .string s], .int .i64 1048576] w fun e w' => ∃ r : Int, e = .returned (.int .i64 r) ∧ -1 ≤ r ∧ (0 ≤ r → s.size ≤ 1048576) ∧ Below w.heap.size w w' := by
  unfold maxLen at hs
  by_cases hn1 : (1048576 : Int) - (s.size : Int) < 0
  · go_enter Tryd.func37, Tryd.ntmps37
    go_wp2
    go_ret
    exact ⟨-1, rfl, by omega, by omega, by go_grown⟩
  · go_enter Tryd.func37, Tryd.ntmps37
    go_wp2
    go_ret
    exact ⟨_, rfl, by omega, fun _ => by omega, by go_grown⟩
theorem toRecord_any (w : World) (n1 n2 n3 : Int) (s : ByteArray) :
    Calls Tryd.prog 38 #[.agg #[.int .i64 n1, .int .i64 n2, .int .i64 n3, .string s]] w fun e w' => e = .returned (.agg #[.int .i64 n1, .int .i64 n2, .int .i64 n3, .string s]) ∧ Below w.heap.size w w' := by
  go_enter Tryd.func38, Tryd.ntmps38
  go_wp2
  refine bodyPost_ret (v := .agg #[.int .i64 n1, .int .i64 n2, .int .i64 n3, .string s]) (by simp [results, Tryd.results38, go_sem]) rfl ⟨rfl, by go_grown⟩
end Go.Proofs.YthigmppalpkadaaDoor.crc
