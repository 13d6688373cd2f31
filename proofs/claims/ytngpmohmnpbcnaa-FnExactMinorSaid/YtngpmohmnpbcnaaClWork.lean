/-
  The young among references, what an object names, and the work list gone through while it grows; by the program.
-/
import Derived.Test.YtngpmohmnpbcnaaClFind
namespace Go.Proofs.Ytngpmohmnpbcnaa.cl
open Go.RowKit
open kinds ints ref obj nu

def halves (l : List Int) : List Int := (yAmong l).map fun r => r / 2
theorem halves_snoc (l : List Int) (r : Int) : halves (l ++ [r]) = if refKind r = 2 then halves l ++ [r / 2] else halves l := by
  unfold halves
  rw [yAmong_snoc]
  split
  · rw [List.map_append]; rfl
  · rfl
theorem halves_len (l : List Int) : (halves l).length ≤ l.length := by
  unfold halves yAmong
  rw [List.length_map]
  exact List.length_filter_le _ _
set_option maxHeartbeats 2000000 in
set_option maxRecDepth 20000 in
theorem youngAmong_any (w : World) (a : Option Addr) (n cap : Nat) (rs : List Int) (hx : rs.length = n) (hn : n ≤ 1048576) (hl : Nums w a rs) (hr : ∀ x ∈ rs, x < 9223372036854775808) :
    Calls Try.prog 74 #[.slice a n cap] w fun e w' => ∃ a2 g c, e = .returned (.slice a2 (halves rs).length c) ∧ w.heap.size ≤ g ∧ Ints w' a2 g (halves rs) ∧ Below w.heap.size w w' := by
  have HN : Hid (∀ w', Below w.heap.size w w' → Nums w' a rs) := fun w' h => hl.below h
  have HRF : Hid (∀ x ∈ rs, ∀ w', Calls _ _ _ w' _) := fun x hxm w' => referenceOf_any x w' (hr x hxm)
  have HXN : Hid (rs.length = n) := hx
  have h1 := yt1; have h1o := yt1o; have h1y := yt1y; have h2 := yt2; have h3 := yt3; have h3y := yt3y; have h4 := yt4; have h5 := yt5; have h6 := yt6; have h7 := yt7; have h8 := yt8; have h9 := yt9
  clear hl hr hx
  go_enter Try.func74, Try.ntmps74
  go_wp2
  go_loopw [3, 10] (fun v i wr => ∃ k : Nat, k ≤ n ∧ i = .int .i64 (k : Int) ∧ wr.ownsRow w.heap.size 69 1 v (halves (rs.take k)).length ((halves (rs.take k)).map (Value.int .i64)) ∧ Below w.heap.size w wr) (fun _ i _ => n - (intOf i).toNat)
  case atStart => exact ⟨0, Nat.zero_le _, rfl, ⟨rfl, .inl ⟨rfl, rfl⟩⟩, Below.refl _ _⟩
  case round =>
    obtain ⟨k, hk, rfl, hown, hb⟩ := hrel
    have HOW : Hid (wr.ownsRow w.heap.size 69 1 u3 (halves (rs.take k)).length ((halves (rs.take k)).map (Value.int .i64))) := hown
    have HB : Hid (Below w.heap.size w wr) := hb
    clear hown hb
    by_cases hlt : k < n
    · have hlti : (k : Int) < (n : Int) := by omega
      have hk0 : (0 : Int) ≤ (k : Int) := by omega
      have hkr : k < rs.length := by have := HXN.out; omega
      obtain ⟨b5, o5, rfl, e5⟩ := (HN.out wr HB.out) k hkr
      have HTK : Hid (halves (rs.take (k + 1)) = if refKind rs[k] = 2 then halves (rs.take k) ++ [rs[k] / 2] else halves (rs.take k)) := by
        show halves (rs.take (k + 1)) = _
        rw [List.take_succ_eq_append_getElem hkr, halves_snoc]
      have HLK : Hid ((halves (rs.take k)).length ≤ 1048576) := by show (halves (rs.take k)).length ≤ _; have := halves_len (rs.take k); rw [List.length_take] at this; omega
      have HRK : Hid (∀ w', Calls _ _ _ w' _) := HRF.out rs[k] (List.getElem_mem hkr)
      generalize rs[k] = x at e5 HTK HRK
      generalize halves (rs.take k) = M at HOW HTK HLK
      clear hkr
      go_wp2_with fail
      refine (HRK.out wr).mono ?_
      rintro e w2 ⟨v, rfl, hv, hb2⟩
      have HB2 : Hid (Below w.heap.size w w2) := HB.out.trans (hb2.mono HB.out.size)
      have HO2 : Hid (w2.ownsRow w.heap.size 69 1 u3 M.length (M.map (Value.int .i64))) := row_kept HOW.out (grown_below none hb2) (fun _ _ _ q => by cases q)
      clear hb2
      cases hv with
      | nothing h =>
        rw [h, if_neg (by decide)] at HTK
        clear h
        go_wp2
        go_roundw
        case rel => exact ⟨k + 1, by omega, by go_num, by rw [HTK.out]; exact HO2.out, HB2.out⟩
        case measure => simp [intOf]; omega
      | old m h h0 h1' =>
        rw [if_neg (by rw [h]; unfold refKind; rw [if_neg (by omega), if_pos (by omega)]; decide)] at HTK
        clear h h0 h1'
        go_wp2
        go_roundw
        case rel => exact ⟨k + 1, by omega, by go_num, by rw [HTK.out]; exact HO2.out, HB2.out⟩
        case measure => simp [intOf]; omega
      | stranger h =>
        rw [if_neg (by unfold refKind; rw [if_neg (by omega), if_neg (by omega), if_neg (by omega)]; decide)] at HTK
        clear h
        go_wp2
        go_roundw
        case rel => exact ⟨k + 1, by omega, by go_num, by rw [HTK.out]; exact HO2.out, HB2.out⟩
        case measure => simp [intOf]; omega
      | young m h h1' =>
        rw [if_pos (by rw [h]; unfold refKind; rw [if_neg (by omega), if_neg (by omega), if_pos (by omega)]), show x / 2 = (m : Int) by omega] at HTK
        clear h h1'
        go_wp2_with (refine wpList_pushY _ (by rfl) _ _ (by rfl) w.heap.size u3 M.length (M.map (Value.int .i64)) (m : Int) HO2.out (by rfl) (by rfl) HLK.out HB2.out.size ?_; intro g3 c3 w6 hrow6 hg6 hat6 hlt6; have HO6 : Hid (_) := hrow6; have HB6 : Hid (Below w.heap.size w w6) := HB2.out.trans (row_grown_below HO2.out hg6 HB2.out.size); clear hrow6 hg6 hat6 hlt6)
        go_roundw
        case rel => exact ⟨k + 1, by omega, by go_num, by rw [HTK.out, List.length_append, List.map_append]; exact HO6.out, HB6.out⟩
        case measure => simp [intOf]; omega
    · obtain rfl : k = n := by omega
      have hown := HOW.out
      rw [List.take_of_length_le (by have := HXN.out; omega)] at hown
      obtain ⟨a6, g6, c6, rfl, hg6, hi6⟩ := words_of_row hown
      have HI6 : Hid (Ints wr a6 g6 (halves rs)) := hi6
      have HG6 : Hid (w.heap.size ≤ g6) := hg6
      clear hown HOW hi6 hg6
      go_wp2
      go_ret
      exact ⟨a6, g6, c6, rfl, HG6.out, HI6.out, HB.out⟩
set_option maxHeartbeats 2000000 in
set_option maxRecDepth 20000 in
theorem clo_any (w : World) (ob : Nat) (ta : Option Addr) (tc : Nat) (m : Value) (B : Nat) (xs : List ByteArray) (ws : List Int) (L : List Nat) (p : Int) (hc0 : w.cell? ⟨ob, 0, none⟩ = some (.slice ta xs.length tc)) (hc2 : w.cell? ⟨ob, 2, none⟩ = some m) (hst : Strs w ta xs) (hlk : Looks w B m xs ws L) (hp : GoodP L p) (hgood : ∀ x ∈ L, stepN xs ws x ≠ 0) (hxn : xs.length ≤ 1048576) (h23 : ∀ i (hi : i < xs.length), 1 ≤ xs[i].size ∧ xs[i].size ≤ 23) (hh : ∀ x ∈ ws, x < 9223372036854775808) :
    Calls Try.prog 75 #[.int .i64 p, .pointer (some ⟨ob, 0, none⟩)] w fun e w' => ∃ a2 g c, e = .returned (.slice a2 (nmP xs ws p).length c) ∧ w.heap.size ≤ g ∧ Ints w' a2 g (nmP xs ws p) ∧ Below w.heap.size w w' := by
  obtain ⟨hp0, hp4, hpm⟩ := hp
  obtain ⟨aa, rfl⟩ := Int.eq_ofNat_of_zero_le hp0
  rw [Int.toNat_natCast] at hpm
  obtain ⟨g, c, hlook, hgB, hin⟩ := hlk.get aa hpm (by omega)
  have hgd := hgood aa hpm
  obtain ⟨hh0, hpb, hfit, _⟩ := stepN_le hgd
  obtain ⟨q, hpe, hpl⟩ := placeB_nat hpb
  have hkd := kdH_at hpl hpe
  have hvl := valsA_len hgd
  rw [hkd] at hvl hfit
  have hs23 := h23 q hpl
  have hlk1 := (hlook w (Below.refl _ _)).1
  rw [hpe] at hlk1
  have hyo := young_obj (ws.getD aa 0 % 4) (q : Int) (some ⟨g, 0, none⟩) (valsA xs ws aa).length c w
  have hrv : ∀ x ∈ refsL xs[q] (valsA xs ws aa) (valsA xs ws aa).length, x < 9223372036854775808 := refsL_mem _ _ _ (Nat.le_refl _) _ (fun x hx => hh x (by
    unfold valsA at hx
    exact List.mem_of_mem_drop (List.mem_of_mem_take hx)))
  have HRO : Hid (Calls _ _ _ w _) := refsOf_any w ta tc xs q (some ⟨g, 0, none⟩) c (valsA xs ws aa) hxn hst hpl hvl (by omega) hin.nums
  have hrl := refsL_len xs[q] (valsA xs ws aa) (valsA xs ws aa).length
  have HNM : Hid (nmP xs ws (aa : Int) = halves (refsL xs[q] (valsA xs ws aa) (valsA xs ws aa).length)) := by
    show nmP xs ws (aa : Int) = _
    unfold nmP halves
    rw [Int.toNat_natCast]
    unfold refsA
    rw [hkd]
  generalize refsL xs[q] (valsA xs ws aa) (valsA xs ws aa).length = RS at HRO hrl HNM hrv
  generalize (valsA xs ws aa).length = vl at hlk1 hyo HRO hrl hvl
  generalize ws.getD aa 0 % 4 = ag at hlk1 hyo
  have HYA : Hid (∀ (w' : World) (a : Option Addr) (cap : Nat), Nums w' a RS → Calls _ _ _ w' _) := fun w' a cap hnu => youngAmong_any w' a RS.length cap RS rfl (by omega) hnu hrv
  rw [HNM.out]
  clear hlook hgB hin hgd hh0 hpb hfit hpe hpl hkd hvl hs23 hp0 hp4 hpm hgood h23 hh hst hlk hrv hrl HNM
  go_enter Try.func75, Try.ntmps75
  go_wp2_with fail
  refine HRO.out.mono ?_
  rintro e w2 ⟨v, rfl, hown, hb2⟩
  obtain ⟨ar, gr, cr, rfl, _, hir⟩ := ints_of_row hown
  have HB2 : Hid (Below w.heap.size w w2) := hb2
  have HY2 : Hid (Calls _ _ _ w2 _) := HYA.out w2 ar cr hir.nums
  clear hown hb2 hir hlk1 hyo hc0 hc2
  go_wp2_with fail
  refine HY2.out.mono ?_
  rintro e w3 ⟨a3, g3, c3, rfl, hg3, hi3, hb3⟩
  have HI3 : Hid (Ints w3 a3 g3 (halves RS)) := hi3
  have HG3 : Hid (w.heap.size ≤ g3) := by have := HB2.out.size; show w.heap.size ≤ g3; omega
  have HB3 : Hid (Below w.heap.size w w3) := HB2.out.trans (hb3.mono HB2.out.size)
  clear hg3 hi3 hb3
  go_wp2
  go_ret
  exact ⟨a3, g3, c3, rfl, HG3.out, HI3.out, HB3.out⟩
set_option maxHeartbeats 2000000 in
set_option maxRecDepth 20000 in
theorem worked_any (w : World) (ob : Nat) (fa : Option Addr) (fg fc : Nat) (first : List Int) (nm : Int → List Int) (L : List Nat) (hL4 : L.length ≤ 400) (hf : Ints w fa fg first) (hfl : first.length ≤ 1048576) (hfg : ∀ p ∈ first, GoodP L p) (hng : ∀ p, GoodP L p → ∀ y ∈ nm p, GoodP L y) (hnl : ∀ p, GoodP L p → (nm p).length ≤ 1048576)
    (hN : ∀ p, GoodP L p → ∀ w', Below w.heap.size w w' → Calls Try.prog 75 #[.int .i64 p, .pointer (some ⟨ob, 0, none⟩)] w' fun e w'' => ∃ a2 g c, e = .returned (.slice a2 (nm p).length c) ∧ w'.heap.size ≤ g ∧ Ints w'' a2 g (nm p) ∧ Below w'.heap.size w' w'') :
    Calls Try.prog 73 #[.slice fa first.length fc, .func (.func 75) #[] #[.pointer (some ⟨ob, 0, none⟩)]] w fun e w' => ∃ a2 g c, e = .returned (.slice a2 (closN nm L.length first).length c) ∧ w.heap.size ≤ g ∧ Ints w' a2 g (closN nm L.length first) ∧ Below w.heap.size w w' := by
  obtain ⟨X, hX⟩ : ∃ X, X = w.alloc (.cells #[.slice none 0 0] 121) := ⟨_, rfl⟩
  have HX : Hid (X = w.alloc (.cells #[.slice none 0 0] 121)) := hX
  have HBX : Hid (Below w.heap.size w X) := by
    have h1 : Below w.heap.size w X := by rw [hX]; exact (Below.refl _ _).alloc (Nat.le_refl _) _
    exact h1
  have hwl0 : WL w.heap.size w.heap.size (.slice none 0 0) [] X :=
    ⟨by rw [hX, World.cell?_alloc_new]; rfl, by rw [hX]; exact World.frozen?_alloc_new _ _ _ _, World.ownsRow_nil _ _ _ _, (fun k q => by cases q), HBX.out.size, Nat.le_refl _⟩
  have HFD : Hid (Calls _ _ _ X _) := find_any X w.heap.size w.heap.size (.slice none 0 0) [] fa fg fc first hwl0 (hf.below HBX.out) hfl (fun h0 => ⟨by have := hf.lt h0; omega, (fun k q => by cases q)⟩) (fun k => by
    have := goodP_len (L := L) (Q := findN [] (first.take k)) (findN_nodup List.nodup_nil) (findN_sub (fun _ h => by cases h) (fun y hy => hfg y (List.mem_of_mem_take hy)))
    omega)
  have HWK : Hid (Wk (GoodP L) nm L.length (closN nm L.length first) 0 (findN [] first)) := Wk.start hfg
  have HNC : Hid (∀ p, GoodP L p → ∀ w', Below w.heap.size w w' → Calls _ _ _ w' _) := hN
  have HNG : Hid (∀ p, GoodP L p → ∀ y ∈ nm p, GoodP L y) := hng
  have HNL : Hid (∀ p, GoodP L p → (nm p).length ≤ 1048576) := hnl
  have HL4 : Hid (L.length ≤ 400) := hL4
  generalize closN nm L.length first = R at HWK ⊢
  generalize first.length = fl at HFD ⊢
  clear hX hf hfl hfg hng hnl hN hwl0 hL4
  go_enter Try.func73, Try.ntmps73
  go_wp2_with (rw [← HX.out])
  refine HFD.out.mono ?_
  rintro e w2 ⟨v2, rfl, hwl2, hb2⟩
  have HW2 : Hid (WL w.heap.size w.heap.size v2 (findN [] first) w2) := hwl2
  have HB2 : Hid (Below w.heap.size w w2) := HBX.out.trans hb2
  clear hwl2 hb2
  go_wp2
  go_loopw [6] (fun i wr => ∃ (k : Nat) (v : Value) (Q : List Int), k ≤ Q.length ∧ i = .int .i64 (k : Int) ∧ Wk (GoodP L) nm L.length R k Q ∧ WL w.heap.size w.heap.size v Q wr ∧ Below w.heap.size w wr) (fun i _ => L.length - (intOf i).toNat)
  case atStart => exact ⟨0, v2, _, Nat.zero_le _, rfl, HWK.out, HW2.out, HB2.out⟩
  case round =>
    clear HWK HW2 HB2 HFD HX HBX
    obtain ⟨k, v, Q, hk, rfl, hwk, hwl, hb⟩ := hrel
    have HWK : Hid (Wk (GoodP L) nm L.length R k Q) := hwk
    have HWL : Hid (WL w.heap.size w.heap.size v Q wr) := hwl
    have HB : Hid (Below w.heap.size w wr) := hb
    have hql := goodP_len hwk.nd hwk.good
    have HQL : Hid (Q.length ≤ L.length) := hql
    have m0 := hwl.cell
    obtain ⟨aq, gq, cq, hvq, hgq, hiq⟩ := words_of_row hwl.row
    subst hvq
    by_cases hlt : k < Q.length
    · have hlti : (k : Int) < (Q.length : Int) := by omega
      have hk0 : (0 : Int) ≤ (k : Int) := by omega
      have hk4 : k ≤ 400 := by have := HL4.out; omega
      have hgr := hwk.good _ (List.getElem_mem hlt)
      have HNX : Hid (Wk (GoodP L) nm L.length R (k + 1) (findN Q (nm Q[k]))) := hwk.step hlt hql HNG.out
      have HFB : Hid (∀ j, (findN Q ((nm Q[k]).take j)).length ≤ 1048576) := fun j => by
        have := goodP_len (L := L) (Q := findN Q ((nm Q[k]).take j)) (findN_nodup hwk.nd) (findN_sub hwk.good (fun y hy => HNG.out _ hgr y (List.mem_of_mem_take hy)))
        have := HL4.out
        omega
      have HC1 : Hid (Calls _ _ _ wr _) := HNC.out _ hgr wr hb
      have HNL1 : Hid ((nm Q[k]).length ≤ 1048576) := HNL.out _ hgr
      obtain ⟨rfl, e5, _⟩ := hiq k hlt
      have HKN : Hid (k < Q.length) := hlt
      generalize nm Q[k] = N1 at HNX HFB HC1 HNL1
      generalize Q[k] = x at e5 HC1
      clear hwk hwl hb hql hgq hiq hgr
      go_wp2_with fail
      refine HC1.out.mono ?_
      rintro e w3 ⟨a3, g3, c3, rfl, hg3, hi3, hb3⟩
      have HF3 : Hid (Calls _ _ _ w3 _) := find_any w3 w.heap.size w.heap.size (.slice (some ⟨gq, 0, none⟩) Q.length cq) Q a3 g3 c3 N1 (HWL.out.below hb3) hi3 HNL1.out (fun _ => ⟨by have := HWL.out.lt; omega, fun r q => by have := (HWL.out.row.lt r q).2; omega⟩) HFB.out
      have HB3 : Hid (Below w.heap.size w w3) := HB.out.trans (hb3.mono HB.out.size)
      generalize N1.length = n1 at HF3
      clear hg3 hi3 hb3 m0 e5
      go_wp2_with fail
      refine HF3.out.mono ?_
      rintro e w4 ⟨v4, rfl, hwl4, hb4⟩
      have HW4 : Hid (WL w.heap.size w.heap.size v4 (findN Q N1) w4) := hwl4
      have HB4 : Hid (Below w.heap.size w w4) := HB3.out.trans hb4
      have HLE : Hid (k + 1 ≤ (findN Q N1).length) := by
        have h1 := findN_len N1 Q
        have h2 := HKN.out
        show k + 1 ≤ _
        omega
      clear hwl4 hb4
      go_wp2
      go_roundw
      case rel => exact ⟨k + 1, v4, _, HLE.out, by go_num, HNX.out, HW4.out, HB4.out⟩
      case measure => have := HKN.out; have := HQL.out; simp [intOf]; omega
    · have hQR : Q = R := hwk.stop (by omega)
      subst hQR
      have HIQ : Hid (Ints wr aq gq Q) := hiq
      have HGQ : Hid (w.heap.size ≤ gq) := hgq
      have hkq : k = Q.length := by omega
      clear hwk hwl hb hgq hiq hql
      go_wp2
      go_ret
      exact ⟨aq, gq, cq, rfl, HGQ.out, HIQ.out, HB.out⟩
end Go.Proofs.Ytngpmohmnpbcnaa.cl
