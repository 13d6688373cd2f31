/-
  Drawn sets of words: some whole numbers, few of them; nothing that was there is written but the reader's own place.
-/
import Derived.Test.YtjdlphebnhkghaaInts
import Derived.Test.YtjdlphebnhkghaaRd3
import Derived.Deep.WholeRow
namespace Go.Proofs.Ytjdlphebnhkghaa.ints
open Go.RowKit
open rd

theorem gB {a w w' : World} {R : Nat} (h : a.grownBy w (some R)) (k : Below a.heap.size w w') : a.grownBy w' (some R) :=
  ⟨k.os.trans h.os, k.tape.trans h.tape, k.output.trans h.output, Nat.le_trans h.size k.size, fun i hi hn => (k.block i hi).trans (h.block i hi hn)⟩
theorem own_rd {w w' : World} {B R : Nat} {v : Value} {n : Nat} {xs : List Value} (h : w.ownsRow B 2 1 v n xs) (hg : w.grownBy w' (some R)) (hR : R < B) : w'.ownsRow B 2 1 v n xs :=
  h.kept hg (by
    cases ho : v.ownBlock with
    | none => exact .inl rfl
    | some b => exact .inr (by have := (h.lt b ho).1; simp; omega))
/-- Two numbers more behind a slice that the call owns. -/
theorem wpList_push2 {ops : Array Oper} {rest : List Oper} {o : Oper} {a : Act} {Q : Exit → Act → World → Prop} (X : World) (hgd : o.guard = none) (s x : Operand)
    (ho : o.op = .call { callee := .builtin .append, args := #[s, x], argTypes := #[22, 22] }) (base : Nat) (v : Value) (xs : List Int) (y z : Int)
    (hown : X.ownsRow base 2 1 v xs.length (xs.map (Value.int .i64))) (hs : a.eval s = v) (hx : a.eval x = .slice (some ⟨X.heap.size, 0, none⟩) 2 2) (hn : xs.length ≤ 1048576) (hbase : base ≤ X.heap.size)
    (h : ∀ g cap w', w'.ownsRow base 2 1 (.slice (some ⟨g, 0, none⟩) (xs.length + 2) cap) (xs ++ [y, z]).length ((xs ++ [y, z]).map (Value.int .i64)) → Below base X w' → base ≤ w'.heap.size → wpList Try.prog ops Q rest (a.put o.dst (.slice (some ⟨g, 0, none⟩) (xs.length + 2) cap)) w') :
    wpList Try.prog ops Q (o :: rest) a (X.alloc (.cells #[.int .i64 y, .int .i64 z] 2)) := by
  obtain ⟨i0, hi, hzz⟩ := Option.map_eq_some_iff.1 infoInt64
  simp only [Prod.mk.injEq] at hzz
  obtain ⟨hz0, hz1, hz2⟩ := hzz
  refine wpList_append_lies _ hgd s x 22 ho base 2 i0 (.int .i64 0) 1 8 Try.underlying22 hi hz0 hz1 hz2 rfl (by decide) v xs.length _ hs (hown.alloc _) ⟨X.heap.size, 0, none⟩ 2 2 [.int .i64 y, .int .i64 z] hx rfl ?_ ?_ (by decide) ?_ ?_ ?_ _ rfl ?_
  · intro j u hj
    match j, hj with
    | 0, hj => simp at hj; subst hj; rw [show (⟨X.heap.size, 0, none⟩ : Addr).add 0 = ⟨X.heap.size, 0, none⟩ from rfl, World.cell?_alloc_new]; rfl
    | 1, hj => simp at hj; subst hj; rw [show (⟨X.heap.size, 0, none⟩ : Addr).add 1 = ⟨X.heap.size, 1, none⟩ from rfl, World.cell?_alloc_new]; rfl
  · intro u hu; simp at hu; rcases hu with rfl | rfl <;> rfl
  · unfold maxLen; omega
  · omega
  · simp; omega
  · intro g cap w' hown' hgrow hat hlt
    have hb : Below base X w' := own_step (hown.alloc _) ((Below.refl _ _).alloc hbase _) (by simp; omega) hgrow
    exact h g cap w' (by simpa using hown') hb (Nat.le_trans hbase hb.size)
set_option maxHeartbeats 2000000 in
set_option maxRecDepth 20000 in
theorem set_any (w : World) (R : Nat) (a : Option Addr) (len cap : Nat) (h : Rd w R a len cap) :
    Calls Try.prog 36 #[.pointer (some ⟨R, 0, none⟩)] w fun e w' => ∃ v : Value, e = .returned v ∧ ∃ xs : List Int, xs.length ≤ 10 ∧ w'.ownsRow w.heap.size 2 1 v xs.length (xs.map (Value.int .i64)) ∧ Rd w' R a len cap ∧ w.grownBy w' (some R) := by
  have HR : Hid (Rd w R a len cap) := h
  have hRsz := h.size
  have HRS : Hid (R < w.heap.size) := hRsz
  clear h
  have HO0 : Hid ((w.alloc (.cells #[] 2)).ownsRow w.heap.size 2 1 (.slice (some ⟨w.heap.size, 0, none⟩) 0 0) 0 []) := ⟨rfl, .inr ⟨w.heap.size, 0, #[], rfl, Nat.le_refl _, heap_alloc_last w _, Nat.le_refl _, Nat.zero_le _, rfl, rfl⟩⟩
  go_enter Try.func36, Try.ntmps36
  go_wp2_with fail
  refine (below_pos _ R a len cap (HR.out.alloc _) 8 (by omega) (by omega)).mono ?_
  rintro e w1 ⟨n0, rfl, hn0, hr1, hb1⟩
  have HR1 : Hid (Rd w1 R a len cap) := hr1
  have HG1 : Hid (w.grownBy w1 (some R)) := gtrans (galloc (grefl _ _) _) hb1
  have HO1 : Hid (w1.ownsRow w.heap.size 2 1 (.slice (some ⟨w.heap.size, 0, none⟩) 0 0) 0 []) := own_rd HO0.out hb1 hRsz
  clear hr1 hb1
  go_wp2
  go_loopw [3, 4, 5] (fun o at_ i wr => ∃ (n t : Nat) (xs : List Int), i = .int .i64 (n : Int) ∧ at_ = .int .i64 (t : Int) ∧ n ≤ 8 ∧ t + 30 * n ≤ 240 ∧ xs.length + n ≤ 8 ∧ wr.ownsRow w.heap.size 2 1 o xs.length (xs.map (Value.int .i64)) ∧ Rd wr R a len cap ∧ w.grownBy wr (some R)) (fun _ _ i _ => (intOf i).toNat)
  case atStart => exact ⟨n0, 0, [], rfl, rfl, by omega, by omega, by simp; omega, HO1.out, HR1.out, HG1.out⟩
  case round =>
    obtain ⟨n, t, xs, rfl, rfl, hn, ht, hxn, hown, hr, hg⟩ := hrel
    have HRr : Hid (Rd wr R a len cap) := hr
    have HGr : Hid (w.grownBy wr (some R)) := hg
    have HOr : Hid (wr.ownsRow w.heap.size 2 1 u3 xs.length (xs.map (Value.int .i64))) := hown
    clear hr hg hown hn0
    by_cases hlt : 0 < n
    · have hlti : (0 : Int) < (n : Int) := by omega
      obtain ⟨m, rfl⟩ : ∃ m, n = m + 1 := ⟨n - 1, by omega⟩
      have HXN : Hid (xs.length + (m + 1) ≤ 8) := hxn
      clear hxn
      go_wp2_with fail
      refine (below_pos _ R a len cap HRr.out 30 (by omega) (by omega)).mono ?_
      rintro e w2 ⟨u, rfl, hu, hr2, hb2⟩
      have HR2 : Hid (Rd w2 R a len cap) := hr2
      have HG2 : Hid (w.grownBy w2 (some R)) := gtrans HGr.out hb2
      have HO2 : Hid (w2.ownsRow w.heap.size 2 1 u3 xs.length (xs.map (Value.int .i64))) := own_rd HOr.out hb2 HRS.out
      have hut : (t : Int) + (1 + (u : Int)) ≤ 300 := by omega
      have HUT : Hid (t + (1 + u) + 30 * m ≤ 240) := by show t + (1 + u) + 30 * m ≤ 240; omega
      clear hr2 hb2 hu ht
      have HM : Hid (m ≤ 8) := by show m ≤ 8; omega
      go_wp2_with (refine wpList_push w2 (by rfl) _ _ (by rfl) w.heap.size u3 xs ((t : Int) + (1 + (u : Int))) HO2.out (by rfl) (by rfl) (by have := HXN.out; omega) HG2.out.size ?_; intro g cp w3 hown3 hb3 hs3; have HO3 : Hid (w3.ownsRow w.heap.size 2 1 (.slice (some ⟨g, 0, none⟩) (xs.length + 1) cp) (xs ++ [(t : Int) + (1 + (u : Int))]).length ((xs ++ [(t : Int) + (1 + (u : Int))]).map (Value.int .i64))) := hown3; have HR3 : Hid (Rd w3 R a len cap) := HR2.out.above (hb3.mono (by have := HRS.out; omega)); have HG3 : Hid (w.grownBy w3 (some R)) := gB HG2.out hb3; clear hown3 hb3 hs3)
      go_roundw
      case rel => exact ⟨m, t + (1 + u), xs ++ [(t : Int) + (1 + (u : Int))], by go_num, by go_num, HM.out, HUT.out, by have := HXN.out; simp; omega, HO3.out, HR3.out, HG3.out⟩
      case measure => simp [intOf]
    · have hge : ¬ (0 : Int) < (n : Int) := by omega
      have HX : Hid (xs.length ≤ 8) := by show xs.length ≤ 8; omega
      clear hxn ht hn hlt
      go_wp2_with fail
      refine (below_pos _ R a len cap HRr.out 20 (by omega) (by omega)).mono ?_
      rintro e w2 ⟨u, rfl, hu, hr2, hb2⟩
      have HR2 : Hid (Rd w2 R a len cap) := hr2
      have HG2 : Hid (w.grownBy w2 (some R)) := gtrans HGr.out hb2
      have HO2 : Hid (w2.ownsRow w.heap.size 2 1 u3 xs.length (xs.map (Value.int .i64))) := own_rd HOr.out hb2 HRS.out
      clear hr2 hb2
      by_cases h0 : u = 0
      · subst h0
        go_wp2_with fail
        refine (off_any _ R a len cap HR2.out 0 1023 (by omega) (by omega) (by omega)).mono ?_
        rintro e w3 ⟨x, rfl, _, hr3, hb3⟩
        have HR3 : Hid (Rd w3 R a len cap) := hr3
        have HG3 : Hid (w.grownBy w3 (some R)) := gtrans HG2.out hb3
        have HO3 : Hid (w3.ownsRow w.heap.size 2 1 u3 xs.length (xs.map (Value.int .i64))) := own_rd HO2.out hb3 HRS.out
        clear hr3 hb3
        go_wp2_with (refine wpList_push w3 (by rfl) _ _ (by rfl) w.heap.size u3 xs x HO3.out (by rfl) (by rfl) (by have := HX.out; omega) HG3.out.size ?_; intro g cp w4 hown4 hb4 hs4; have HO4 : Hid (w4.ownsRow w.heap.size 2 1 (.slice (some ⟨g, 0, none⟩) (xs.length + 1) cp) (xs ++ [x]).length ((xs ++ [x]).map (Value.int .i64))) := hown4; have HR4 : Hid (Rd w4 R a len cap) := HR3.out.above (hb4.mono (by have := HRS.out; omega)); have HG4 : Hid (w.grownBy w4 (some R)) := gB HG3.out hb4; clear hown4 hb4 hs4)
        go_ret
        exact ⟨_, rfl, xs ++ [x], by have := HX.out; simp; omega, HO4.out, HR4.out, HG4.out⟩
      · by_cases h1 : u = 1
        · subst h1
          go_wp2_with (refine wpList_push2 w2 (by rfl) _ _ (by rfl) w.heap.size u3 xs 1022 1023 HO2.out (by rfl) (by rfl) (by have := HX.out; omega) HG2.out.size ?_; intro g cp w4 hown4 hb4 hs4; have HO4 : Hid (w4.ownsRow w.heap.size 2 1 (.slice (some ⟨g, 0, none⟩) (xs.length + 2) cp) (xs ++ [1022, 1023]).length ((xs ++ [1022, 1023]).map (Value.int .i64))) := hown4; have HR4 : Hid (Rd w4 R a len cap) := HR2.out.above (hb4.mono (by have := HRS.out; omega)); have HG4 : Hid (w.grownBy w4 (some R)) := gB HG2.out hb4; clear hown4 hb4 hs4)
          go_ret
          exact ⟨_, rfl, xs ++ [1022, 1023], by have := HX.out; simp; omega, HO4.out, HR4.out, HG4.out⟩
        · have e0 : ((u : Int) == 0) = false := by simp; omega
          have e1 : ((u : Int) == 1) = false := by simp; omega
          go_wp2
          go_ret
          exact ⟨_, rfl, xs, by have := HX.out; omega, HO2.out, HR2.out, HG2.out⟩
end Go.Proofs.Ytjdlphebnhkghaa.ints
