/-
  Drawn lines and maps: what the reader's lines and aMap return, and the draws of the laws on maps; nothing that was there is written but the reader's own place.
-/
import Derived.Test.YtomlogkbndmaaaaMapOf
import Derived.Test.YtomlogkbndmaaaaRd3
namespace Go.Proofs.Ytomlogkbndmaaaa.lb
open Go.RowKit
open ints rd

set_option maxRecDepth 20000 in
theorem gB {a w w' : World} {R : Nat} (h : a.grownBy w (some R)) (k : Below a.heap.size w w') : a.grownBy w' (some R) :=
  ⟨k.os.trans h.os, k.tape.trans h.tape, k.output.trans h.output, Nat.le_trans h.size k.size, fun i hi hn => (k.block i hi).trans (h.block i hi hn)⟩
set_option maxRecDepth 20000 in
theorem own_rd {w w' : World} {B R : Nat} {v : Value} {n : Nat} {xs : List Value} (h : w.ownsRow B 2 1 v n xs) (hg : w.grownBy w' (some R)) (hR : R < B) : w'.ownsRow B 2 1 v n xs :=
  h.kept hg (by
    cases ho : v.ownBlock with
    | none => exact .inl rfl
    | some b => exact .inr (by have := (h.lt b ho).1; simp; omega))
set_option maxRecDepth 20000 in
theorem okN_app (xs ys : List Int) (k : Nat) (hk : k ≤ xs.length) : prevN (xs ++ ys) k = prevN xs k ∧ okN (xs ++ ys) k = okN xs k := by
  induction k with
  | zero => exact ⟨rfl, rfl⟩
  | succ k ih =>
    obtain ⟨h1, h2⟩ := ih (by omega)
    have e : (xs ++ ys).getD k 0 = xs.getD k 0 := by
      rw [List.getD_eq_getElem?_getD, List.getD_eq_getElem?_getD, List.getElem?_append_left (by omega)]
    exact ⟨e, by rw [okN, okN, h1, h2, e]⟩
set_option maxRecDepth 20000 in
theorem okN_snoc (xs : List Int) (x : Int) (h : okN xs xs.length = true) (h1 : prevN xs xs.length < x) (h2 : x < 128) : okN (xs ++ [x]) (xs ++ [x]).length = true ∧ prevN (xs ++ [x]) (xs ++ [x]).length = x := by
  obtain ⟨e1, e2⟩ := okN_app xs [x] xs.length (Nat.le_refl _)
  have e : (xs ++ [x]).getD xs.length 0 = x := by rw [List.getD_eq_getElem?_getD]; simp
  rw [show (xs ++ [x]).length = xs.length + 1 by simp]
  exact ⟨by rw [okN, e1, e2, e, h, decide_eq_true h1, decide_eq_true h2]; rfl, by rw [prevN, e]⟩
set_option maxRecDepth 20000 in
set_option maxHeartbeats 2000000 in
theorem lines_any (w : World) (R : Nat) (a : Option Addr) (len cap : Nat) (h : Rd w R a len cap) :
    Calls Try.prog 66 #[.pointer (some ⟨R, 0, none⟩)] w fun e w' => ∃ v : Value, e = .returned v ∧ ∃ xs : List Int, xs.length ≤ 128 ∧ okN xs xs.length = true ∧ w'.ownsRow w.heap.size 2 1 v xs.length (xs.map (Value.int .i64)) ∧ Rd w' R a len cap ∧ w.grownBy w' (some R) := by
  have HR : Hid (Rd w R a len cap) := h
  have hRsz := h.size
  clear h
  have HO0 : Hid ((w.alloc (.cells #[] 2)).ownsRow w.heap.size 2 1 (.slice (some ⟨w.heap.size, 0, none⟩) 0 0) 0 []) := ⟨rfl, .inr ⟨w.heap.size, 0, #[], rfl, Nat.le_refl _, heap_alloc_last w _, Nat.le_refl _, Nat.zero_le _, rfl, rfl⟩⟩
  go_enter Try.func66, Try.ntmps66
  go_wp2_with fail
  refine (below_pos _ R a len cap (HR.out.alloc _) 12 (by omega) (by omega)).mono ?_
  rintro e w1 ⟨st, rfl, hst, hr1, hb1⟩
  have HR1 : Hid (Rd w1 R a len cap) := hr1
  have HG1 : Hid (w.grownBy w1 (some R)) := gtrans (galloc (grefl _ _) _) hb1
  have HO1 : Hid (w1.ownsRow w.heap.size 2 1 (.slice (some ⟨w.heap.size, 0, none⟩) 0 0) 0 []) := own_rd HO0.out hb1 hRsz
  clear hr1 hb1
  have hst1 : IntKind.i64.wrap (1 + (st : Int)) = 1 + (st : Int) := by rw [IntKind.wrap_i64]; omega
  go_wp2_with fail
  refine (below_pos _ R a len cap HR1.out (1 + (st : Int)) (by omega) (by omega)).mono ?_
  rintro e w2 ⟨n0, rfl, hn0, hr2, hb2⟩
  have HR2 : Hid (Rd w2 R a len cap) := hr2
  have HG2 : Hid (w.grownBy w2 (some R)) := gtrans HG1.out hb2
  have HO2 : Hid (w2.ownsRow w.heap.size 2 1 (.slice (some ⟨w.heap.size, 0, none⟩) 0 0) 0 []) := own_rd HO1.out hb2 hRsz
  clear hr2 hb2
  go_wp2
  go_loopw [3, 5] (fun o i wr => ∃ (n : Nat) (xs : List Int), i = .int .i64 (n : Int) ∧ n ≤ 200 ∧ xs.length ≤ n ∧ xs.length ≤ 128 ∧ okN xs xs.length = true ∧ prevN xs xs.length < (n : Int) ∧ wr.ownsRow w.heap.size 2 1 o xs.length (xs.map (Value.int .i64)) ∧ Rd wr R a len cap ∧ w.grownBy wr (some R)) (fun _ i _ => 300 - (intOf i).toNat)
  case atStart => exact ⟨n0, [], rfl, by omega, by simp, by simp, rfl, by show (-1 : Int) < n0; omega, HO2.out, HR2.out, HG2.out⟩
  case round =>
    obtain ⟨n, xs, rfl, hn, hxn, hx128, hok, hpv, hown, hr, hg⟩ := hrel
    have HRr : Hid (Rd wr R a len cap) := hr
    have HGr : Hid (w.grownBy wr (some R)) := hg
    have HOr : Hid (wr.ownsRow w.heap.size 2 1 _ xs.length (xs.map (Value.int .i64))) := hown
    have HOK : Hid (okN xs xs.length = true) := hok
    have HPV : Hid (prevN xs xs.length < (n : Int)) := hpv
    clear hr hg hown hok hpv
    by_cases hlt : n < 128
    · have hlti : (n : Int) < 128 := by omega
      have HXN : Hid (xs.length ≤ n) := hxn
      clear hxn hx128
      go_wp2_with (at_builtin; refine wpList_push _ rfl _ _ rfl w.heap.size _ xs (n : Int) HOr.out rfl rfl (by have := HXN.out; omega) HGr.out.size ?_; intro g cp w3 hown3 hb3 hs3)
      have HO3 : Hid (w3.ownsRow w.heap.size 2 1 (.slice (some ⟨g, 0, none⟩) (xs.length + 1) cp) (xs ++ [(n : Int)]).length ((xs ++ [(n : Int)]).map (Value.int .i64))) := hown3
      have HR3 : Hid (Rd w3 R a len cap) := HRr.out.above (hb3.mono (by omega))
      have HG3 : Hid (w.grownBy w3 (some R)) := gB HGr.out hb3
      clear hown3 hb3 hs3
      refine (below_pos _ R a len cap HR3.out (1 + (st : Int)) (by omega) (by omega)).mono ?_
      rintro e w4 ⟨u, rfl, hu, hr4, hb4⟩
      have HR4 : Hid (Rd w4 R a len cap) := hr4
      have HG4 : Hid (w.grownBy w4 (some R)) := gtrans HG3.out hb4
      have HO4 : Hid (w4.ownsRow w.heap.size 2 1 (.slice (some ⟨g, 0, none⟩) (xs.length + 1) cp) (xs ++ [(n : Int)]).length ((xs ++ [(n : Int)]).map (Value.int .i64))) := own_rd HO3.out hb4 hRsz
      have hu12 : (u : Int) ≤ 12 := by omega
      have HU : Hid (n + 1 + u ≤ 200) := by show n + 1 + u ≤ 200; omega
      clear hr4 hb4 hu hst1 hst hn0 hlt hn hRsz
      go_wp2
      go_roundw
      case rel =>
        obtain ⟨s1, s2⟩ := okN_snoc xs (n : Int) HOK.out HPV.out hlti
        exact ⟨n + 1 + u, xs ++ [(n : Int)], by go_num, HU.out, by have := HXN.out; simp; omega, by have := HXN.out; simp; omega, s1, by rw [s2]; omega, HO4.out, HR4.out, HG4.out⟩
      case measure => simp [intOf]; omega
    · have HX : Hid (xs.length ≤ 128) := hx128
      have hge : ¬ (n : Int) < 128 := by omega
      clear hxn hx128 hlt hn hst1 hst hn0
      go_wp2
      go_ret
      exact ⟨_, rfl, xs, HX.out, HOK.out, HOr.out, HRr.out, HGr.out⟩
set_option maxRecDepth 20000 in
theorem rd_below {w w' : World} {R : Nat} {a : Option Addr} {len cap : Nat} (h : Rd w R a len cap) (hb : Below w.heap.size w w') : Rd w' R a len cap := h.later hb
set_option maxRecDepth 20000 in
theorem aMap_any (w : World) (R : Nat) (a : Option Addr) (len cap : Nat) (h : Rd w R a len cap) :
    Calls Try.prog 32 #[.pointer (some ⟨R, 0, none⟩)] w fun e w' => ∃ s : ByteArray, e = .returned (.string s) ∧ s.size ≤ 65 ∧ Rd w' R a len cap ∧ w.grownBy w' (some R) := by
  have HR : Hid (Rd w R a len cap) := h
  clear h
  go_enter Try.func32, Try.ntmps32
  go_wp2_with fail
  refine (lines_any _ R a len cap HR.out).mono ?_
  rintro e w1 ⟨v, rfl, xs, hxl, hok, hown, hr1, hb1⟩
  obtain ⟨ad, g, cp, rfl, _, hints⟩ := ints_of_row hown
  have HR1 : Hid (Rd w1 R a len cap) := hr1
  have HG1 : Hid (w.grownBy w1 (some R)) := hb1
  have HC : Hid (Calls _ _ _ _ _) := l6MapOf_any w1 ad cp xs (by omega) hints.nums hok
  have hsz : (ByteArray.mk (setsK xs xs.length).toArray).size = 64 := by
    show (setsK xs xs.length).toArray.size = 64
    rw [List.size_toArray]; exact setsK_length xs xs.length
  generalize ByteArray.mk (setsK xs xs.length).toArray = st at HC hsz
  clear hown hints hr1 hb1 hok
  go_wp2_with fail
  refine HC.out.mono ?_
  rintro e w2 ⟨rfl, hb2⟩
  have HR2 : Hid (Rd w2 R a len cap) := HR1.out.later hb2
  have HG2 : Hid (w.grownBy w2 (some R)) := gbelow HG1.out hb2
  clear hb2
  go_wp2_with fail
  refine (once_any _ R a len cap HR2.out 20 (by omega) (by omega)).mono ?_
  rintro e w3 ⟨q, rfl, hr3, hb3⟩
  have HR3 : Hid (Rd w3 R a len cap) := hr3
  have HG3 : Hid (w.grownBy w3 (some R)) := gtrans HG2.out hb3
  clear hr3 hb3
  cases q with
  | true =>
    go_wp2_with fail
    refine (hurt_any _ R a len cap HR3.out st (by omega)).mono ?_
    rintro e w4 ⟨t, rfl, ht, hr4, hb4⟩
    have HR4 : Hid (Rd w4 R a len cap) := hr4
    have HG4 : Hid (w.grownBy w4 (some R)) := gtrans HG3.out hb4
    have HT : Hid (t.size ≤ 65) := by show t.size ≤ 65; omega
    clear hr4 hb4 ht
    go_wp2
    go_ret
    exact ⟨t, rfl, HT.out, HR4.out, HG4.out⟩
  | false =>
    have HT : Hid (st.size ≤ 65) := by show st.size ≤ 65; omega
    go_wp2
    go_ret
    exact ⟨st, rfl, HT.out, HR3.out, HG3.out⟩
end Go.Proofs.Ytomlogkbndmaaaa.lb
