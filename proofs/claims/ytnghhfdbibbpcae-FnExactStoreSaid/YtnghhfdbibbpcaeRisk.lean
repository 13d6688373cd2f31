/-
  What AtRisk returns, by the specification and by the program: the places of the lines that are not as Safe has them, in new memory; nothing that was there is written.
-/
import Derived.Test.YtnghhfdbibbpcaeDev5
import Derived.Test.YtnghhfdbibbpcaeDev4
import Derived.Test.YtnghhfdbibbpcaeMark
import Derived.Deep.AppendLies
import Derived.Outline
namespace Go.Proofs.Ytnghhfdbibbpcae.dev
open Go.RowKit
open later

/-- The line of a text at a place. -/
def safeAt (safe : ByteArray) (p : Nat) : ByteArray := safe.extract (64 * p) (64 * p + 64)
def risky (safe : ByteArray) (l : Ln) : Bool := !(l.data.toList == (safeAt safe l.place.toNat).toList)
def riskL (safe : ByteArray) (ls : List Ln) : List Int := (ls.filter (risky safe)).map Ln.place
theorem riskL_take (safe : ByteArray) (ls : List Ln) (k : Nat) (hk : k < ls.length) : riskL safe (ls.take (k + 1)) = riskL safe (ls.take k) ++ (if risky safe ls[k] = true then [ls[k].place] else []) := by
  unfold riskL
  rw [List.take_succ_eq_append_getElem hk, List.filter_append, List.map_append]
  congr 1
  by_cases h : risky safe ls[k] = true
  · simp [h]
  · simp [h]
theorem riskL_le (safe : ByteArray) (ls : List Ln) (k : Nat) : (riskL safe (ls.take k)).length ≤ ls.length := by
  unfold riskL
  rw [List.length_map]
  exact Nat.le_trans (List.length_filter_le _ _) (by simp; omega)

theorem infoInt : (Try.prog.info? 2).map (fun i => (i.zero, i.size, i.bytes)) = some (some (.int .i64 0), 1, 8) := by kernel_rfl
theorem grown_own {w w' : World} {B : Nat} {v : Value} (h : w.grownBy w' v.ownBlock) (hv : ∀ k, v.ownBlock = some k → B ≤ k) (hB : B ≤ w.heap.size) : Below B w w' :=
  ⟨h.os, h.tape, h.output, h.size, fun k hk => h.block k (by omega) (fun e => by have := hv k e.symm; omega)⟩
theorem safeLine_any (w : World) (safe : ByteArray) (v : Value) (p : Nat) (hs : safe.size ≤ 1048576) (h : 64 * p + 64 ≤ safe.size) :
    Calls Try.prog 39 #[.agg #[.string safe, v], .int .i64 (p : Int)] w fun e w' => e = .returned (.string (safeAt safe p)) ∧ Below w.heap.size w w' := by
  have h1 : 64 * (p : Int) + 64 ≤ (safe.size : Int) := by omega
  have HE : Hid (safeAt safe p = safe.extract (p * 64) ((p + 1) * 64)) := by show safeAt safe p = _; unfold safeAt; rw [Nat.mul_comm 64 p, show (p + 1) * 64 = p * 64 + 64 by omega]
  go_enter Try.func39, Try.ntmps39
  go_wp2
  go_ret
  rw [HE.out]
  exact ⟨rfl, by go_grown⟩
theorem own_mono {w : World} {B B' : Nat} {e : TypeId} {size : Nat} {v : Value} {n : Nat} {xs : List Value} (h : w.ownsRow B e size v n xs) (hB : B' ≤ B) : w.ownsRow B' e size v n xs := by
  refine ⟨h.1, ?_⟩
  rcases h.2 with h2 | ⟨g, cap, cur, h1, h2, h3⟩
  · exact .inl h2
  · exact .inr ⟨g, cap, cur, h1, by omega, h3⟩
theorem own_below {w w' : World} {B : Nat} {e : TypeId} {size : Nat} {v : Value} {n : Nat} {xs : List Value} (h : w.ownsRow B e size v n xs) (hb : Below w.heap.size w w') : w'.ownsRow B e size v n xs :=
  h.kept (grown_below none hb) (by
    rcases hv : v.ownBlock with _ | k
    · exact .inl rfl
    · exact .inr (by simp))
/-- One more behind what a slice has, in whatever world. -/
theorem own_step {w w1 : World} {B : Nat} {v : Value} {n : Nat} {xs : List Value} {W : World} (h : w.ownsRow B 2 1 v n xs) (hb : Below B W w) (hB : B ≤ w.heap.size) (hg : w.grownBy w1 v.ownBlock) : Below B W w1 :=
  hb.trans (grown_own hg (fun k hk => (h.lt k hk).1) hB)
end Go.Proofs.Ytnghhfdbibbpcae.dev
