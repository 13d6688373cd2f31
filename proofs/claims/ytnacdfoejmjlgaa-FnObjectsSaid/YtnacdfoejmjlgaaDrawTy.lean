/-
  Drawn types: a few texts; nothing that was there is written but the reader's own place.
-/
import Derived.Test.YtnacdfoejmjlgaaTxt
import Derived.Test.YtnacdfoejmjlgaaDrawK
import Derived.Laws.OwnMore
namespace Go.Proofs.Ytnacdfoejmjlgaa.rd
open Go.RowKit
open txt ints

theorem gBt {a w w' : World} {R : Nat} (h : a.grownBy w (some R)) (k : Below a.heap.size w w') : a.grownBy w' (some R) :=
  ⟨k.os.trans h.os, k.tape.trans h.tape, k.output.trans h.output, Nat.le_trans h.size k.size, fun i hi hn => (k.block i hi).trans (h.block i hi hn)⟩
theorem own_rdT {w w' : World} {B R e z : Nat} {v : Value} {n : Nat} {xs : List Value} (h : w.ownsRow B e z v n xs) (hg : w.grownBy w' (some R)) (hR : R < B) : w'.ownsRow B e z v n xs :=
  h.kept hg (by
    cases ho : v.ownBlock with
    | none => exact .inl rfl
    | some b => exact .inr (by have := (h.lt b ho).1; simp; omega))
set_option maxHeartbeats 2000000 in
set_option maxRecDepth 20000 in
theorem types_any2 (w : World) (R : Nat) (a : Option Addr) (len cap : Nat) (h : Rd w R a len cap) :
    Calls Try.prog 23 #[.pointer (some ⟨R, 0, none⟩)] w fun e w' => ∃ v : Value, e = .returned v ∧ ∃ xs : List ByteArray, 1 ≤ xs.length ∧ xs.length ≤ 3 ∧ (∀ x ∈ xs, 1 ≤ x.size ∧ x.size ≤ 23) ∧ w'.ownsRow w.heap.size 9 1 v xs.length (xs.map Value.string) ∧ Rd w' R a len cap ∧ w.grownBy w' (some R) := by
  have HR : Hid (Rd w R a len cap) := h
  have hRsz := h.size
  have HRS : Hid (R < w.heap.size) := hRsz
  clear h
  go_enter Try.func23, Try.ntmps23
  go_wp2_with fail
  refine (below_pos _ R a len cap (HR.out.alloc _) 4 (by omega) (by omega)).mono ?_
  rintro e w1 ⟨u, rfl, hu, hr1, hb1⟩
  have hne : some w.heap.size ≠ some R := by simp; omega
  have hc : ∃ s : ByteArray, (1 ≤ s.size ∧ s.size ≤ 3) ∧ w1.cell? ⟨w.heap.size, u, none⟩ = some (.string s) := by
    have hcase : u = 0 ∨ u = 1 ∨ u = 2 ∨ u = 3 := by omega
    rcases hcase with rfl | rfl | rfl | rfl
    all_goals
      refine ⟨_, ?_, hb1.cell (a := ⟨w.heap.size, _, none⟩) (by rw [World.cell?_alloc_new]; rfl) hne⟩
      decide
  obtain ⟨s, hs3, c0⟩ := hc
  have HR1 : Hid (Rd w1 R a len cap) := hr1
  have HG1 : Hid (w.grownBy w1 (some R)) := gtrans (galloc (grefl _ _) _) hb1
  obtain ⟨X, hX⟩ : ∃ X, X = w1.alloc (.cells #[.string s] 9) := ⟨_, rfl⟩
  have HX : Hid (X = w1.alloc (.cells #[.string s] 9)) := hX
  have HO1 : Hid (X.ownsRow w.heap.size 9 1 (.slice (some ⟨w1.heap.size, 0, none⟩) 1 1) ([s] : List ByteArray).length (([s] : List ByteArray).map Value.string)) := by
    have h1 := World.ownsRow_lit (base := w.heap.size) (e := 9) (size := 1) w1 #[.string s] 1 HG1.out.size (by unfold maxLen; omega) rfl
    rw [hX]
    exact h1
  have HRX : Hid (Rd X R a len cap) := by
    have h1 : Rd X R a len cap := by rw [hX]; exact hr1.alloc _
    exact h1
  have HGX : Hid (w.grownBy X (some R)) := by
    have h1 : w.grownBy X (some R) := by rw [hX]; exact galloc HG1.out _
    exact h1
  have HS3 : Hid (1 ≤ s.size ∧ s.size ≤ 23) := by show 1 ≤ s.size ∧ s.size ≤ 23; omega
  have hui : (u : Int) < 4 := hu
  obtain ⟨xb, hxb⟩ : ∃ x, x = w1.heap.size := ⟨_, rfl⟩
  have HXB : Hid (xb = w1.heap.size) := hxb
  rw [← hxb] at HO1
  clear hr1 hb1 hX hne hs3 hxb
  go_wp2_with (rw [← HX.out, ← HXB.out])
  refine (below_pos _ R a len cap HRX.out 3 (by omega) (by omega)).mono ?_
  rintro e w2 ⟨n0, rfl, hn0, hr2, hb2⟩
  have HR2 : Hid (Rd w2 R a len cap) := hr2
  have HG2 : Hid (w.grownBy w2 (some R)) := gtrans HGX.out hb2
  have HO2 : Hid (w2.ownsRow w.heap.size 9 1 (.slice (some ⟨xb, 0, none⟩) 1 1) ([s] : List ByteArray).length (([s] : List ByteArray).map Value.string)) := own_rdT HO1.out hb2 HRS.out
  clear hr2 hb2 c0
  go_wp2
  go_loopw [3, 4] (fun o i wr => ∃ (n : Nat) (xs : List ByteArray), i = .int .i64 (n : Int) ∧ n ≤ 3 ∧ xs.length + n ≤ 3 ∧ 1 ≤ xs.length ∧ (∀ x ∈ xs, 1 ≤ x.size ∧ x.size ≤ 23) ∧ wr.ownsRow w.heap.size 9 1 o xs.length (xs.map Value.string) ∧ Rd wr R a len cap ∧ w.grownBy wr (some R)) (fun _ i _ => (intOf i).toNat)
  case atStart => exact ⟨n0, [s], rfl, by omega, by simp; omega, by simp, fun x hx => by simp at hx; rw [hx]; exact HS3.out, HO2.out, HR2.out, HG2.out⟩
  case round =>
    obtain ⟨n, xs, rfl, hn, hxn, hx1, hxs, hown, hr, hg⟩ := hrel
    have HRr : Hid (Rd wr R a len cap) := hr
    have HGr : Hid (w.grownBy wr (some R)) := hg
    have HOr : Hid (wr.ownsRow w.heap.size 9 1 u3 xs.length (xs.map Value.string)) := hown
    have HXS : Hid (∀ x ∈ xs, 1 ≤ x.size ∧ x.size ≤ 23) := hxs
    have HX1 : Hid (1 ≤ xs.length) := hx1
    clear hr hg hown hn0 hxs hx1
    by_cases hlt : 0 < n
    · have hlti : (0 : Int) < (n : Int) := by omega
      obtain ⟨m, rfl⟩ : ∃ m, n = m + 1 := ⟨n - 1, by omega⟩
      have HXN : Hid (xs.length + (m + 1) ≤ 3) := hxn
      have HM : Hid (m ≤ 3) := by show m ≤ 3; omega
      clear hxn
      go_wp2_with fail
      refine (once_any _ R a len cap HRr.out 4 (by omega) (by omega)).mono ?_
      rintro e w3 ⟨q, rfl, hr3, hb3⟩
      have HR3 : Hid (Rd w3 R a len cap) := hr3
      have HG3 : Hid (w.grownBy w3 (some R)) := gtrans HGr.out hb3
      have HO3 : Hid (w3.ownsRow w.heap.size 9 1 u3 xs.length (xs.map Value.string)) := own_rdT HOr.out hb3 HRS.out
      clear hr3 hb3
      have HKI : Hid (∀ most : Nat, 1 ≤ most → most ≤ 23 → Calls _ _ _ w3 _) := fun most q1 q2 => kinds_any w3 R a len cap HR3.out most q1 (by omega)
      cases q with
      | true =>
        have HK2 : Hid (Calls _ _ _ w3 _) := HKI.out 23 (by omega) (by omega)
        go_wp2_with fail
        refine HK2.out.mono ?_
        rintro e w4 ⟨t, rfl, ht1, ht, hr4, hb4⟩
        have HR4 : Hid (Rd w4 R a len cap) := hr4
        have HG4 : Hid (w.grownBy w4 (some R)) := gtrans HG3.out hb4
        have HO4 : Hid (w4.ownsRow w.heap.size 9 1 u3 xs.length (xs.map Value.string)) := own_rdT HO3.out hb4 HRS.out
        have HT : Hid (∀ x ∈ xs ++ [t], 1 ≤ x.size ∧ x.size ≤ 23) := fun x hx => by
          rcases List.mem_append.1 hx with h | h
          · exact HXS.out x h
          · simp at h; rw [h]; omega
        clear hr4 hb4 ht ht1
        go_wp2_with (refine wpList_pushT w4 (by rfl) _ _ (by rfl) w.heap.size u3 xs t HO4.out (by rfl) (by rfl) (by have := HXN.out; omega) HG4.out.size ?_; intro g cp w5 hown5 hb5 hs5; have HO5 : Hid (w5.ownsRow w.heap.size 9 1 (.slice (some ⟨g, 0, none⟩) (xs.length + 1) cp) (xs ++ [t]).length ((xs ++ [t]).map Value.string)) := hown5; have HR5 : Hid (Rd w5 R a len cap) := HR4.out.above (hb5.mono (by have := HRS.out; omega)); have HG5 : Hid (w.grownBy w5 (some R)) := gBt HG4.out hb5; clear hown5 hb5 hs5)
        go_roundw
        case rel => exact ⟨m, xs ++ [t], by go_num, HM.out, by have := HXN.out; simp; omega, by simp, HT.out, HO5.out, HR5.out, HG5.out⟩
        case measure => simp [intOf]
      | false =>
        have HK2 : Hid (Calls _ _ _ w3 _) := HKI.out 5 (by omega) (by omega)
        go_wp2_with fail
        refine HK2.out.mono ?_
        rintro e w4 ⟨t, rfl, ht1, ht, hr4, hb4⟩
        have HR4 : Hid (Rd w4 R a len cap) := hr4
        have HG4 : Hid (w.grownBy w4 (some R)) := gtrans HG3.out hb4
        have HO4 : Hid (w4.ownsRow w.heap.size 9 1 u3 xs.length (xs.map Value.string)) := own_rdT HO3.out hb4 HRS.out
        have HT : Hid (∀ x ∈ xs ++ [t], 1 ≤ x.size ∧ x.size ≤ 23) := fun x hx => by
          rcases List.mem_append.1 hx with h | h
          · exact HXS.out x h
          · simp at h; rw [h]; omega
        clear hr4 hb4 ht ht1
        go_wp2_with (refine wpList_pushT w4 (by rfl) _ _ (by rfl) w.heap.size u3 xs t HO4.out (by rfl) (by rfl) (by have := HXN.out; omega) HG4.out.size ?_; intro g cp w5 hown5 hb5 hs5; have HO5 : Hid (w5.ownsRow w.heap.size 9 1 (.slice (some ⟨g, 0, none⟩) (xs.length + 1) cp) (xs ++ [t]).length ((xs ++ [t]).map Value.string)) := hown5; have HR5 : Hid (Rd w5 R a len cap) := HR4.out.above (hb5.mono (by have := HRS.out; omega)); have HG5 : Hid (w.grownBy w5 (some R)) := gBt HG4.out hb5; clear hown5 hb5 hs5)
        go_roundw
        case rel => exact ⟨m, xs ++ [t], by go_num, HM.out, by have := HXN.out; simp; omega, by simp, HT.out, HO5.out, HR5.out, HG5.out⟩
        case measure => simp [intOf]
    · have hge : ¬ (0 : Int) < (n : Int) := by omega
      have HX3 : Hid (xs.length ≤ 3) := by show xs.length ≤ 3; omega
      clear hxn hn hlt
      go_wp2
      go_ret
      exact ⟨_, rfl, xs, HX1.out, HX3.out, HXS.out, HOr.out, HRr.out, HGr.out⟩
theorem types_any (w : World) (R : Nat) (a : Option Addr) (len cap : Nat) (h : Rd w R a len cap) :
    Calls Try.prog 23 #[.pointer (some ⟨R, 0, none⟩)] w fun e w' => ∃ v : Value, e = .returned v ∧ ∃ xs : List ByteArray, 1 ≤ xs.length ∧ xs.length ≤ 3 ∧ (∀ x ∈ xs, x.size ≤ 23) ∧ w'.ownsRow w.heap.size 9 1 v xs.length (xs.map Value.string) ∧ Rd w' R a len cap ∧ w.grownBy w' (some R) := by
  refine (types_any2 w R a len cap h).mono ?_
  rintro e w' ⟨v, rfl, xs, h1, h2, h3, h4⟩
  exact ⟨v, rfl, xs, h1, h2, fun x hx => (h3 x hx).2, h4⟩
end Go.Proofs.Ytnacdfoejmjlgaa.rd
