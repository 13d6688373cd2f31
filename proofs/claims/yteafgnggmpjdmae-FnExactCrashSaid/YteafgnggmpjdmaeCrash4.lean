/-
  Both Crash alike; devices without lines, marked and held; two devices without lines that stay where they are.
-/
import Derived.Test.YteafgnggmpjdmaeCrash3
import Derived.Test.YteafgnggmpjdmaeDevOpen
import Derived.ChangeSlices
namespace Go.Proofs.Yteafgnggmpjdmae.dev
open Go.ChangeShapes Go.WideShapes Go.ChangeAt Go.RowKit
open bb later

theorem crash_both (safe : ByteArray) (ls : List Ln) (ks : List Int) (hs : safe.size ≤ 1048576) (hn : ls.length ≤ 1048576) (hkn : ks.length ≤ 1048576) (hz : ∀ i (hi : i < ls.length), ls[i].data.size ≤ 1048576 ∧ ls[i].sent.size ≤ 1048576) :
    ∃ st : ByteArray, (∀ (w : World) (a : Option Addr) (cap : Nat) (kb : Option Addr) (kc : Nat), Lines w a ls → Nums w kb ks → Calls Try.prog 14 #[.agg #[.string safe, .slice a ls.length cap], .slice kb ks.length kc] w fun e w' => e = .returned (.agg #[.string st, .slice none 0 0]) ∧ Below w.heap.size w w') ∧
      ∀ (w : World) (a : Option Addr) (cap : Nat) (kb : Option Addr) (kc : Nat), Lines w a ls → Nums w kb ks → Calls Try.prog 16 #[.agg #[.string safe, .slice a ls.length cap], .slice kb ks.length kc] w fun e w' => e = .returned (.agg #[.string st, .slice none 0 0]) ∧ Below w.heap.size w w' := by
  by_cases hok : DevOk safe ls
  · exact ⟨crashStr safe ls ks, fun w a cap kb kc hl hk => spec_crash w safe a cap ls kb kc ks hs hn hkn hl hk hz hok, fun w a cap kb kc hl hk => impl_crash w safe a cap ls kb kc ks hs hn hkn hl hk hz hok⟩
  · exact ⟨⟨#[]⟩, fun w a cap kb kc hl _ => spec_crash_no w safe a cap ls (.slice kb ks.length kc) hs hn hl hz hok, fun w a cap kb kc hl _ => impl_crash_no w safe a cap ls (.slice kb ks.length kc) hs hn hl hz hok⟩
theorem heldLineS_nil (w : World) (k : Nat) (_hk1 : k ≤ 4194304) :
    Calls Try.prog 28 #[.slice none 0 0, .int .i64 (k : Int)] w fun e w' => e = .returned (.int .i64 (k : Int)) ∧ Below w.heap.size w w' := by
  go_enter Try.func28, Try.ntmps28
  go_wp2
  refine wp_loop_rounds 1 ?_
  rw [rounds_succ]
  go_wp2
  go_ret
  exact ⟨rfl, Below.refl _ _⟩
theorem heldDevice_nil (w : World) (st : ByteArray) (k : Nat) (hk1 : k ≤ 4194304) :
    Calls Try.prog 17 #[.agg #[.string st, .slice none 0 0], .int .i64 (k : Int)] w fun e w' => e = .returned (.int .i64 (k : Int)) ∧ Below w.heap.size w w' := by
  have hb0 : Below w.heap.size w (w.alloc (.cells #[.string st, .slice none 0 0] 30)) := (Below.refl _ _).alloc (Nat.le_refl _) _
  go_enter Try.func17, Try.ntmps17
  go_wp2_with fail
  refine (heldLineS_nil _ k hk1).mono ?_
  rintro e w2 ⟨rfl, hb2⟩
  have hk0 : ¬ (k : Int) < 0 := by omega
  go_wp2
  go_ret
  exact ⟨rfl, hb0.trans (hb2.mono hb0.size)⟩
theorem markDevice_nil (w : World) (st : ByteArray) (k : Nat) (hk : 0 < k) (hk1 : k ≤ 4194304) :
    Calls Try.prog 11 #[.agg #[.string st, .slice none 0 0], .int .i64 (k : Int)] w fun e w' => e = .returned (.int .i64 (k : Int)) ∧ Below w.heap.size w w' := by
  refine (markDevice_any w st none w.heap.size 0 0 k (fun h => by omega) (fun j hj => by omega) (by omega) hk hk1).mono ?_
  rintro e w2 ⟨rfl, hg⟩
  exact ⟨by simp, below_of_grown hg (Nat.le_refl _) (Nat.le_refl _)⟩
/-- Two devices without lines, in two blocks, behind a world. -/
def Two (W w : World) (a b : Nat) (st : ByteArray) : Prop :=
  Below W.heap.size W w ∧ w.cell? ⟨a, 0, none⟩ = some (.string st) ∧ w.cell? ⟨a, 1, none⟩ = some (.slice none 0 0) ∧ w.cell? ⟨b, 0, none⟩ = some (.string st) ∧ w.cell? ⟨b, 1, none⟩ = some (.slice none 0 0)
theorem Two.below {W w w' : World} {a b : Nat} {st : ByteArray} (h : Two W w a b st) (hb : Below w.heap.size w w') : Two W w' a b st := by
  obtain ⟨h0, h1, h2, h3, h4⟩ := h
  have la := World.block_lt_of_cell? w _ h1
  have lb := World.block_lt_of_cell? w _ h3
  exact ⟨h0.trans (hb.mono h0.size), by rw [hb.cell (p := ⟨a, 0, none⟩) la]; exact h1, by rw [hb.cell (p := ⟨a, 1, none⟩) la]; exact h2, by rw [hb.cell (p := ⟨b, 0, none⟩) lb]; exact h3, by rw [hb.cell (p := ⟨b, 1, none⟩) lb]; exact h4⟩
theorem Two.grown {W w w' : World} {a b r : Nat} {st : ByteArray} (h : Two W w a b st) (hg : w.grownBy w' (some r)) (hr : W.heap.size ≤ r) (ha : a ≠ r) (hb : b ≠ r) : Two W w' a b st := by
  obtain ⟨h0, h1, h2, h3, h4⟩ := h
  have la := hg.block a (World.block_lt_of_cell? w _ h1) (fun q => ha (Option.some.inj q))
  have lb := hg.block b (World.block_lt_of_cell? w _ h3) (fun q => hb (Option.some.inj q))
  exact ⟨h0.trans (below_of_grown hg h0.size hr), by rw [World.cell?_of_block (a := ⟨a, 0, none⟩) la]; exact h1, by rw [World.cell?_of_block (a := ⟨a, 1, none⟩) la]; exact h2, by rw [World.cell?_of_block (a := ⟨b, 0, none⟩) lb]; exact h3, by rw [World.cell?_of_block (a := ⟨b, 1, none⟩) lb]; exact h4⟩
/-- A slice of whole numbers that is handed in. -/
theorem nums_of {H : Type} {enc : TypeId × Value → H} {W : World} {r : Reach} {b0 : Nat} {base : Nat} {sp : Nat → Bool} {held : Bool} {v : Value} {d : DataW H} {p : List MemPlace}
    (hv : Value.okWide Try.prog W r b0 26 v) (h : DataW.Trod enc Try.prog W base sp held 26 v d p) :
    ∃ (kb : Option Addr) (kc : Nat) (ks : List Int), v = .slice kb ks.length kc ∧ ks.length ≤ maxLen ∧ Nums W kb ks := by
  obtain ⟨a0, len0, cap0, rfl⟩ := okWide_slice Try.underlying26 hv
  obtain ⟨fuel, hf⟩ := h
  rcases open_ints Try.underlying26 Try.underlying2 (by kernel_rfl) hf with ⟨hcs, _⟩ | ⟨x, l, c, zs, hcs, _, hl, hm, hz, _, hcell, _⟩
  · simp [Value.cells] at hcs
    obtain ⟨rfl, rfl, rfl⟩ := hcs
    exact ⟨none, 0, [], rfl, Nat.zero_le _, fun i hi => absurd hi (by simp)⟩
  · simp [Value.cells] at hcs
    obtain ⟨rfl, rfl, rfl⟩ := hcs
    have hzl : len0 ≤ zs.length := by rw [hz]; split <;> omega
    have htl : (zs.take len0).length = len0 := by simp; omega
    refine ⟨some x, cap0, zs.take len0, by rw [htl], by rw [htl]; omega, fun i hi => ?_⟩
    rw [htl] at hi
    have hc := hcell i (by omega)
    have h0 := hcell 0 (by omega)
    obtain ⟨b, off, spot⟩ := x
    have hspot : spot = none := by
      have := World.cell?_spot h0
      simpa [Addr.add] using this
    subst hspot
    have hadd : ∀ j : Nat, (⟨b, off, none⟩ : Addr).add j = ⟨b, off + j, none⟩ := fun j => by unfold Addr.add; split <;> simp_all
    rw [hadd] at hc
    refine ⟨b, off, rfl, ?_⟩
    rw [hc]
    simp [List.getElem?_eq_getElem (show i < zs.length by omega)]
end Go.Proofs.Yteafgnggmpjdmae.dev
