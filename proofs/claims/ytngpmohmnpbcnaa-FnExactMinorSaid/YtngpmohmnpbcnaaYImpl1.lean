/-
  Whether a nursery is right, where its objects begin, and the object of a reference, by the program.
-/
import Derived.Test.YtngpmohmnpbcnaaYOpen3
namespace Go.Proofs.Ytngpmohmnpbcnaa.nu
open Go.RowKit Go.Maps
open kinds ints ref obj

/-- An answer with one list of whole numbers of the call's own. -/
def AOut (mk : Value → Value) (vs : List Int) (w : World) (e : Ending) (w' : World) : Prop :=
  ∃ a g cap, e = .returned (mk (.slice a vs.length cap)) ∧ w.heap.size ≤ g ∧ Ints w' a g vs ∧ Below w.heap.size w w'
theorem box2 (w : World) (z : Int) (a2 : Option Addr) (n vcap : Nat) (W : World) (hW : W = w.alloc (.cells #[.int .i64 z, .slice a2 n vcap] 31)) :
    Below w.heap.size w W ∧ W.heap.size = w.heap.size + 1 ∧ W.cell? ⟨w.heap.size, 0, none⟩ = some (.int .i64 z) ∧ W.cell? ⟨w.heap.size, 1, none⟩ = some (.slice a2 n vcap) := by
  subst hW
  exact ⟨(Below.refl _ _).alloc (Nat.le_refl _) _, by simp, by rw [World.cell?_alloc_new]; rfl, by rw [World.cell?_alloc_new]; rfl⟩
set_option maxHeartbeats 1000000 in
set_option maxRecDepth 20000 in
theorem impl_nurok (w : World) (a : Option Addr) (cap : Nat) (xs : List ByteArray) (z : Int) (a2 : Option Addr) (n vcap : Nat) (ws : List Int) (hx : ws.length = n) (hxn : xs.length ≤ 1048576) (hl : Strs w a xs) (hz : ∀ i (hi : i < xs.length), xs[i].size ≤ 1048576) (hn : n ≤ 1048576) (hcap : n ≤ vcap) (hv : Nums w a2 ws) (hh : ∀ x ∈ ws, x < 9223372036854775808) :
    Calls Try.prog 30 #[.slice a xs.length cap, .agg #[.int .i64 z, .slice a2 n vcap]] w fun e w' => e = .returned (.bool (nurB xs z ws)) ∧ Below w.heap.size w w' := by
  obtain ⟨W, hW⟩ : ∃ W, W = w.alloc (.cells #[.int .i64 z, .slice a2 n vcap] 31) := ⟨_, rfl⟩
  have HW : Hid (W = w.alloc (.cells #[.int .i64 z, .slice a2 n vcap] 31)) := hW
  obtain ⟨hb0, _, c0, c1⟩ := box2 w z a2 n vcap W hW
  have HB0 : Hid (Below w.heap.size w W) := hb0
  have HOP : Hid (Calls _ _ _ W _) := opened_any W a cap xs z a2 n vcap ws hx hxn (hl.below hb0) hz hn hcap (hv.below hb0) hh
  clear hW hl hv hb0 hx hh hz
  go_enter Try.func30, Try.ntmps30
  go_wp2_with (rw [← HW.out])
  refine HOP.out.mono ?_
  rintro e w2 ⟨hb2, ta, tn, tc, sa, sc, mo, rfl, _⟩
  have HB2 : Hid (Below w.heap.size w w2) := HB0.out.trans (hb2.mono HB0.out.size)
  have HBA : Hid (∀ V, Below w.heap.size w (w2.alloc V)) := fun V => HB2.out.alloc HB2.out.size _
  clear hb2
  go_wp2
  go_ret
  exact ⟨rfl, HBA.out _⟩
theorem yplace (n : Int) (w : World) :
    Calls Try.prog 49 #[.int .i64 n] w fun e w' => e = .returned (.int .i64 n) ∧ w = w' := by
  go_enter Try.func49, Try.ntmps49
  go_wp2
  go_ret
  exact ⟨rfl, rfl⟩
set_option maxHeartbeats 2000000 in
set_option maxRecDepth 20000 in
theorem impl_starts (w : World) (a : Option Addr) (cap : Nat) (xs : List ByteArray) (z : Int) (a2 : Option Addr) (n vcap : Nat) (ws : List Int) (hx : ws.length = n) (hxn : xs.length ≤ 1048576) (hl : Strs w a xs) (hz : ∀ i (hi : i < xs.length), xs[i].size ≤ 1048576) (hn : n ≤ 1048576) (hcap : n ≤ vcap) (hv : Nums w a2 ws) (hh : ∀ x ∈ ws, x < 9223372036854775808) :
    Calls Try.prog 29 #[.slice a xs.length cap, .agg #[.int .i64 z, .slice a2 n vcap]] w fun e w' => AOut (fun s => s) (numsOf (startsN xs z ws)) w e w' := by
  obtain ⟨W, hW⟩ : ∃ W, W = w.alloc (.cells #[.int .i64 z, .slice a2 n vcap] 31) := ⟨_, rfl⟩
  have HW : Hid (W = w.alloc (.cells #[.int .i64 z, .slice a2 n vcap] 31)) := hW
  obtain ⟨hb0, hsz, c0, c1⟩ := box2 w z a2 n vcap W hW
  have HB0 : Hid (Below w.heap.size w W) := hb0
  have HOP : Hid (Calls _ _ _ W _) := opened_any W a cap xs z a2 n vcap ws hx hxn (hl.below hb0) hz hn hcap (hv.below hb0) hh
  have HX : Hid (ws.length = n) := hx
  have HL4 : Hid (nurB xs z ws = true → ws.length ≤ 400) := fun h => by
    have h1 := preN_facts (nurB_found h).1
    omega
  have HL0 : Hid (nurB xs z ws = false → startsN xs z ws = []) := fun h => by unfold startsN; rw [h]; simp
  clear hW hl hv hb0 hx hh hz hsz
  go_enter Try.func29, Try.ntmps29
  go_wp2_with (rw [← HW.out])
  refine HOP.out.mono ?_
  rintro e w2 ⟨hb2, ta, tn, tc, sa, sc, mo, rfl, hnu, _, _, hle, _⟩
  have HLN : Hid ((startsN xs z ws).length ≤ 400) := by
    show (startsN xs z ws).length ≤ 400
    cases hb : nurB xs z ws with
    | false => rw [HL0.out hb]; exact Nat.zero_le _
    | true => have := HL4.out hb; omega
  obtain ⟨L, hLL⟩ : ∃ L, L = startsN xs z ws := ⟨_, rfl⟩
  rw [← hLL] at hnu hle HLN ⊢
  have HLE : Hid (L = startsN xs z ws) := hLL
  generalize nurB xs z ws = ok
  obtain ⟨Y, hY⟩ : ∃ Y, Y = w2.alloc (.cells #[.slice ta tn tc, .slice sa L.length sc, .map mo] 60) := ⟨_, rfl⟩
  obtain ⟨yb, hyb⟩ : ∃ yb, yb = w2.heap.size := ⟨_, rfl⟩
  have HY : Hid (Y = w2.alloc (.cells #[.slice ta tn tc, .slice sa L.length sc, .map mo] 60)) := hY
  have HYB : Hid (yb = w2.heap.size) := hyb
  have hbY : Below w2.heap.size w2 Y := by rw [hY]; exact (Below.refl _ _).alloc (Nat.le_refl _) _
  have htY : Tri yb (.slice ta tn tc) (.slice sa L.length sc) (.map mo) Y := by rw [hY, hyb]; exact Tri.start w2 _ _ _ _
  have HBY : Hid (Below w.heap.size w Y) := (HB0.out.trans (hb2.mono HB0.out.size)).trans (hbY.mono (Nat.le_trans HB0.out.size hb2.size))
  have hnY := hnu.below hbY
  have HSN : Hid (∀ w', Below Y.heap.size Y w' → Nums w' sa (numsOf L)) := fun w' h => hnY.below h
  obtain ⟨t0, t1, t2, _⟩ := htY
  clear hb2 hY hyb hbY hnu hnY hle hLL HL4 HL0
  go_wp2_with (first | (rw [← HY.out, ← HYB.out]) | (rw [← HY.out]))
  go_loopw [7, 19] (fun v i wr => ∃ k : Nat, k ≤ L.length ∧ i = .int .i64 (k : Int) ∧ wr.ownsRow Y.heap.size 2 1 v (numsOf (L.take k)).length ((numsOf (L.take k)).map (Value.int .i64)) ∧ Below Y.heap.size Y wr) (fun _ i _ => L.length - (intOf i).toNat)
  case atStart => exact ⟨0, Nat.zero_le _, rfl, ⟨rfl, .inl ⟨rfl, rfl⟩⟩, Below.refl _ _⟩
  case round =>
    obtain ⟨k, hk, rfl, hown, hb⟩ := hrel
    have HOW : Hid (wr.ownsRow Y.heap.size 2 1 u7 (numsOf (L.take k)).length ((numsOf (L.take k)).map (Value.int .i64))) := hown
    have HB : Hid (Below Y.heap.size Y wr) := hb
    clear hown hb
    by_cases hlt : k < L.length
    · have hlti : (k : Int) < (L.length : Int) := by omega
      have hk0 : (0 : Int) ≤ (k : Int) := by omega
      have hk4 : k ≤ 400 := by have := HLN.out; omega
      obtain ⟨b5, o5, rfl, e5⟩ := (HSN.out wr HB.out) k (by rw [numsOf_len]; exact hlt)
      rw [show (numsOf L)[k]'(by rw [numsOf_len]; exact hlt) = (L[k] : Int) by unfold numsOf; simp] at e5
      have HTK : Hid (numsOf (L.take (k + 1)) = numsOf (L.take k) ++ [(L[k] : Int)]) := by
        show numsOf (L.take (k + 1)) = _
        rw [List.take_succ_eq_append_getElem hlt, numsOf_snoc]
      have HLK : Hid ((numsOf (L.take k)).length ≤ 1048576) := by show (numsOf (L.take k)).length ≤ _; rw [numsOf_len, List.length_take]; have := HLN.out; omega
      generalize L[k] = aa at e5 HTK
      generalize numsOf (L.take k) = M at HOW HTK HLK
      have HKN : Hid (k < L.length) := hlt
      go_wp2_with fail
      refine (yplace (aa : Int) wr).mono ?_
      rintro e w3 ⟨rfl, rfl⟩
      go_wp2_with (refine wpList_push wr (by rfl) _ _ (by rfl) Y.heap.size u7 M (aa : Int) HOW.out (by rfl) (by rfl) HLK.out HB.out.size ?_; intro g2 c2 w6 hown6 hb6 hB6; have HO6 : Hid (_) := hown6; have HB6 : Hid (Below Y.heap.size Y w6) := HB.out.trans hb6; clear hown6 hb6 hB6)
      go_roundw
      case rel => exact ⟨k + 1, by have := HKN.out; omega, by go_num, by rw [HTK.out]; exact HO6.out, HB6.out⟩
      case measure => have := HKN.out; simp [intOf]; omega
    · obtain rfl : k = L.length := by omega
      have hown := HOW.out
      rw [List.take_length] at hown
      obtain ⟨a6, g6, c6, rfl, hg6, hi6⟩ := ints_of_row hown
      have HI6 : Hid (Ints wr a6 g6 (numsOf L)) := hi6
      have HG6 : Hid (w.heap.size ≤ g6) := by show w.heap.size ≤ g6; have := HBY.out.size; omega
      clear hown HOW hi6 hg6
      go_wp2
      go_ret
      have hle := HLE.out
      subst hle
      exact ⟨a6, g6, c6, rfl, HG6.out, HI6.out, HBY.out.trans (HB.out.mono HBY.out.size)⟩
/-- Whether a reference is of an object of a right nursery. -/
def yobB (L : List Nat) (r : Int) : Bool := (refKind r == 2) && inB L (r / 2)
theorem yob_not {L : List Nat} {r : Int} (h : refKind r ≠ 2) : yobB L r = false := by simp [yobB, h]
theorem yob_young (L : List Nat) (n : Nat) (h1 : n ≤ 399) : yobB L (2 * (n : Int) + 1) = inB L (n : Int) := by
  have : refKind (2 * (n : Int) + 1) = 2 := by unfold refKind; rw [if_neg (by omega), if_neg (by omega), if_pos (by omega)]
  have e : (2 * (n : Int) + 1) / 2 = (n : Int) := by omega
  simp [yobB, this, e]
/-- Its age, type and values. -/
def yobAge (ws : List Int) (L : List Nat) (r : Int) : Int := if yobB L r = true then ws.getD (r / 2).toNat 0 % 4 else 0
def yobT (ws : List Int) (L : List Nat) (r : Int) : Int := if yobB L r = true then ws.getD (r / 2).toNat 0 / 4 else 0
def yobV (xs : List ByteArray) (ws : List Int) (L : List Nat) (r : Int) : List Int := if yobB L r = true then valsA xs ws (r / 2).toNat else []
set_option maxHeartbeats 2000000 in
set_option maxRecDepth 20000 in
theorem objectOf_any (w : World) (T S : Value) (mo : Option Nat) (B : Nat) (xs : List ByteArray) (ws : List Int) (L : List Nat) (r : Int) (hr : r < 9223372036854775808) (hm : Looks w B (.map mo) xs ws L) (hB : B ≤ w.heap.size) (ht : ∃ ta tn tc sa sn sc, T = .slice ta tn tc ∧ S = .slice sa sn sc) :
    Calls Try.prog 60 #[.agg #[T, S, .map mo], .int .i64 r] w fun e w' => ∃ a g cap, e = .returned (.tuple #[.agg #[.int .i64 (yobAge ws L r), .int .i64 (yobT ws L r), .slice a (yobV xs ws L r).length cap], .bool (yobB L r)]) ∧ B ≤ g ∧ Ints w' a g (yobV xs ws L r) ∧ Below w.heap.size w w' := by
  obtain ⟨ta, tn, tc, sa, sn, sc, rfl, rfl⟩ := ht
  obtain ⟨W, hW⟩ : ∃ W, W = (w.alloc (.cells #[.slice ta tn tc, .slice sa sn sc, .map mo] 60)).alloc (.cells #[.int .i64 0, .int .i64 0, .slice none 0 0] 71) := ⟨_, rfl⟩
  have HW : Hid (W = (w.alloc (.cells #[.slice ta tn tc, .slice sa sn sc, .map mo] 60)).alloc (.cells #[.int .i64 0, .int .i64 0, .slice none 0 0] 71)) := hW
  have hb0 : Below w.heap.size w W := by rw [hW]; exact ((Below.refl _ _).alloc (Nat.le_refl _) _).alloc (by simp) _
  have hsz : W.heap.size = w.heap.size + 2 := by rw [hW]; simp
  have hT0 : Tri w.heap.size (.slice ta tn tc) (.slice sa sn sc) (.map mo) W := by
    rw [hW]; exact (Tri.start w _ _ _ _).below ((Below.refl _ _).alloc (Nat.le_refl _) _)
  have hT1 : Tri (w.heap.size + 1) (.int .i64 0) (.int .i64 0) (.slice none 0 0) W := by
    have h := Tri.start (w.alloc (.cells #[.slice ta tn tc, .slice sa sn sc, .map mo] 60)) (.int .i64 0) (.int .i64 0) (.slice none 0 0) 71
    rw [show (w.alloc (.cells #[.slice ta tn tc, .slice sa sn sc, .map mo] 60)).heap.size = w.heap.size + 1 by simp] at h
    rw [hW]; exact h
  have HT0 : Hid (∀ w', Below W.heap.size W w' → Tri w.heap.size (.slice ta tn tc) (.slice sa sn sc) (.map mo) w') := fun w' h => hT0.below h
  have HT1 : Hid (∀ w', Below W.heap.size W w' → Tri (w.heap.size + 1) (.int .i64 0) (.int .i64 0) (.slice none 0 0) w') := fun w' h => hT1.below h
  have HB0 : Hid (Below w.heap.size w W) := hb0
  have hm1 := hm.below hb0
  have HM : Hid (∀ w', Below W.heap.size W w' → Looks w' B (.map mo) xs ws L) := fun w' h => hm1.below h
  have HM0 : Hid (Looks w B (.map mo) xs ws L) := hm
  have HRF : Hid (Calls _ _ _ W _) := referenceOf_any r W hr
  have HNO : Hid (∀ {e : Ending} {w' : World}, yobB L r = false → e = .returned (.tuple #[.agg #[.int .i64 0, .int .i64 0, .slice none 0 0], .bool false]) → Below w.heap.size w w' → ∃ a g cap, e = .returned (.tuple #[.agg #[.int .i64 (yobAge ws L r), .int .i64 (yobT ws L r), .slice a (yobV xs ws L r).length cap], .bool (yobB L r)]) ∧ B ≤ g ∧ Ints w' a g (yobV xs ws L r) ∧ Below w.heap.size w w') := fun hf he hb => by
    unfold yobAge yobT yobV
    rw [hf]
    exact ⟨none, w.heap.size, 0, he, hB, (fun i hi => by cases hi), hb⟩
  have HSZ : Hid (W.heap.size = w.heap.size + 2) := hsz
  clear hW hb0 hsz hT0 hT1 hm hm1 hB
  go_enter Try.func60, Try.ntmps60
  go_wp2_with fail
  rw [← HW.out]
  refine HRF.out.mono ?_
  rintro e w2 ⟨v, rfl, hv, hb2⟩
  have HB2 : Hid (Below W.heap.size W w2) := hb2
  have h1 := yt1y; have h3 := yt3y; have h6 := yt6; have h9 := yt9
  obtain ⟨t0, t1, t2, _⟩ := HT0.out w2 hb2
  obtain ⟨v0, v1, v2, vf⟩ := HT1.out w2 hb2
  have z0 := vf 0
  have z1 := vf 1
  have z2 := vf 2
  have HPN : Hid (Tri (w.heap.size + 1) (.int .i64 0) (.int .i64 0) (.slice none 0 0) (((w2.setCell ⟨w.heap.size + 1, 0, none⟩ (.int .i64 0)).setCell ⟨w.heap.size + 1, 1, none⟩ (.int .i64 0)).setCell ⟨w.heap.size + 1, 2, none⟩ (.slice none 0 0)) ∧ Below w.heap.size w (((w2.setCell ⟨w.heap.size + 1, 0, none⟩ (.int .i64 0)).setCell ⟨w.heap.size + 1, 1, none⟩ (.int .i64 0)).setCell ⟨w.heap.size + 1, 2, none⟩ (.slice none 0 0))) := ⟨(HT1.out w2 hb2).put _ _ _, put_below (HB0.out.trans (hb2.mono HB0.out.size)) (by omega) _ _ _⟩
  clear hb2 vf
  cases hv with
  | nothing h =>
    have HR2 : Hid (yobB L r = false) := yob_not (by rw [h]; decide)
    go_wp2
    refine bodyPost_ret (v := .tuple #[.agg #[.int .i64 0, .int .i64 0, .slice none 0 0], .bool false]) ?_ rfl (HNO.out HR2.out rfl HPN.out.2)
    obtain ⟨q0, q1, q2, _⟩ := HPN.out.1
    simp [results, Try.results60, go_sem, q0, q1, q2]
  | old n h h0 h1' =>
    have HR2 : Hid (yobB L r = false) := yob_not (by unfold refKind; rw [if_neg (by omega), if_pos (by omega)]; decide)
    clear h h0 h1'
    go_wp2
    refine bodyPost_ret (v := .tuple #[.agg #[.int .i64 0, .int .i64 0, .slice none 0 0], .bool false]) ?_ rfl (HNO.out HR2.out rfl HPN.out.2)
    obtain ⟨q0, q1, q2, _⟩ := HPN.out.1
    simp [results, Try.results60, go_sem, q0, q1, q2]
  | stranger h =>
    have HR2 : Hid (yobB L r = false) := yob_not (by unfold refKind; rw [if_neg (by omega), if_neg (by omega), if_neg (by omega)]; decide)
    clear h
    go_wp2
    refine bodyPost_ret (v := .tuple #[.agg #[.int .i64 0, .int .i64 0, .slice none 0 0], .bool false]) ?_ rfl (HNO.out HR2.out rfl HPN.out.2)
    obtain ⟨q0, q1, q2, _⟩ := HPN.out.1
    simp [results, Try.results60, go_sem, q0, q1, q2]
  | young n h h1' =>
    have HR2 : Hid (yobB L r = inB L (n : Int)) := by show yobB L r = _; rw [h]; exact yob_young L n h1'
    have hrn : (r / 2).toNat = n := by omega
    have hn : n ≤ 1048576 := by omega
    have HRN : Hid ((r / 2).toNat = n) := hrn
    clear h h1' hrn HPN
    -- what is found, laid into a variable
    have HLY : Hid (∀ (x0 x1 x2 : Value) (Y : World), Y = w2.alloc (.cells #[x0, x1, x2] 71) → Tri w2.heap.size x0 x1 x2 Y ∧ Tri (w.heap.size + 1) (.int .i64 0) (.int .i64 0) (.slice none 0 0) Y ∧ Below w.heap.size w Y ∧ Below w2.heap.size w2 Y) := fun x0 x1 x2 Y hY => by
      have hbY : Below w2.heap.size w2 Y := by rw [hY]; exact (Below.refl _ _).alloc (Nat.le_refl _) _
      have hbW : Below W.heap.size W Y := HB2.out.trans (hbY.mono HB2.out.size)
      exact ⟨by rw [hY]; exact Tri.start w2 _ _ _ _, HT1.out Y hbW, HB0.out.trans (hbW.mono HB0.out.size), hbY⟩
    cases hi : inB L (n : Int) with
    | true =>
      rw [hi] at HR2
      obtain ⟨g, c, q1, hgB, hin⟩ := HM0.out.get n ((inB_nat L n).1 hi) hn
      have q2 := (q1 w2 (HB0.out.trans (HB2.out.mono HB0.out.size))).2
      have HAN : Hid (yobAge ws L r = ws.getD n 0 % 4 ∧ yobT ws L r = ws.getD n 0 / 4 ∧ yobV xs ws L r = valsA xs ws n) := by
        show _ ∧ _ ∧ _
        unfold yobAge yobT yobV
        rw [HR2.out, HRN.out]
        exact ⟨rfl, rfl, rfl⟩
      generalize ws.getD n 0 % 4 = ag at q2 HAN
      generalize ws.getD n 0 / 4 = ty at q2 HAN
      generalize valsA xs ws n = va at q2 HAN hin
      obtain ⟨Y, hY⟩ : ∃ Y, Y = w2.alloc (.cells #[.int .i64 ag, .int .i64 ty, .slice (some ⟨g, 0, none⟩) va.length c] 71) := ⟨_, rfl⟩
      obtain ⟨yb, hyb⟩ : ∃ yb, yb = w2.heap.size := ⟨_, rfl⟩
      have HY : Hid (Y = w2.alloc (.cells #[.int .i64 ag, .int .i64 ty, .slice (some ⟨g, 0, none⟩) va.length c] 71)) := hY
      have HYB : Hid (yb = w2.heap.size) := hyb
      obtain ⟨hyT, hrT, hbw, hb2Y⟩ := HLY.out _ _ _ Y hY
      rw [← hyb] at hyT
      obtain ⟨y0, y1, y2, _⟩ := hyT
      obtain ⟨v0, v1, v2, vf⟩ := hrT
      have z0 := vf 0
      have z1 := vf 1
      have z2 := vf 2
      have HPT : Hid (Tri (w.heap.size + 1) (.int .i64 ag) (.int .i64 ty) (.slice (some ⟨g, 0, none⟩) va.length c) (((Y.setCell ⟨w.heap.size + 1, 0, none⟩ (.int .i64 ag)).setCell ⟨w.heap.size + 1, 1, none⟩ (.int .i64 ty)).setCell ⟨w.heap.size + 1, 2, none⟩ (.slice (some ⟨g, 0, none⟩) va.length c))) := ⟨(Tri.put ⟨v0, v1, v2, vf⟩ _ _ _).c0, (Tri.put ⟨v0, v1, v2, vf⟩ _ _ _).c1, (Tri.put ⟨v0, v1, v2, vf⟩ _ _ _).c2, (Tri.put ⟨v0, v1, v2, vf⟩ _ _ _).free⟩
      have HBT : Hid (Below w.heap.size w (((Y.setCell ⟨w.heap.size + 1, 0, none⟩ (.int .i64 ag)).setCell ⟨w.heap.size + 1, 1, none⟩ (.int .i64 ty)).setCell ⟨w.heap.size + 1, 2, none⟩ (.slice (some ⟨g, 0, none⟩) va.length c))) := put_below hbw (by omega) _ _ _
      have HIN : Hid (Ints Y (some ⟨g, 0, none⟩) g va) := hin.below hbw
      have HGB : Hid (B ≤ g) := hgB
      have HGN : Hid (0 < va.length → g ≠ w.heap.size + 1) := fun h => by have := hin.lt h; omega
      clear hY hyb hbw hb2Y vf hin hgB q1 hi hn
      go_wp2_with (first | (rw [← HY.out, ← HYB.out]) | (rw [← HY.out]))
      refine bodyPost_ret (v := .tuple #[.agg #[.int .i64 ag, .int .i64 ty, .slice (some ⟨g, 0, none⟩) va.length c], .bool true]) ?_ rfl ?_
      · obtain ⟨q0, q1, q2, _⟩ := HPT.out
        simp [results, Try.results60, go_sem, q0, q1, q2]
      · obtain ⟨e1, e2, e3⟩ := HAN.out
        refine ⟨some ⟨g, 0, none⟩, g, c, by rw [e1, e2, e3, HR2.out], HGB.out, ?_, HBT.out⟩
        rw [e3]
        exact HIN.out.grown2 (put_grown _ _ _ _ _) HGN.out
    | false =>
      rw [hi] at HR2
      have q2 := (HM.out w2 HB2.out).miss (n : Int) hi (word_wf n hn)
      obtain ⟨Y, hY⟩ : ∃ Y, Y = w2.alloc (.cells #[.int .i64 0, .int .i64 0, .slice none 0 0] 71) := ⟨_, rfl⟩
      obtain ⟨yb, hyb⟩ : ∃ yb, yb = w2.heap.size := ⟨_, rfl⟩
      have HY : Hid (Y = w2.alloc (.cells #[.int .i64 0, .int .i64 0, .slice none 0 0] 71)) := hY
      have HYB : Hid (yb = w2.heap.size) := hyb
      obtain ⟨hyT, hrT, hbw, hb2Y⟩ := HLY.out _ _ _ Y hY
      rw [← hyb] at hyT
      have hyw : w.heap.size ≤ yb := by have := HB2.out.size; have := HB0.out.size; omega
      have hye : yb ≠ w.heap.size + 1 := by have := HB2.out.size; have := HSZ.out; omega
      obtain ⟨Z, hZ⟩ : ∃ Z, Z = ((Y.setCell ⟨yb, 0, none⟩ (.int .i64 0)).setCell ⟨yb, 1, none⟩ (.int .i64 0)).setCell ⟨yb, 2, none⟩ (.slice none 0 0) := ⟨_, rfl⟩
      have HZ : Hid (Z = ((Y.setCell ⟨yb, 0, none⟩ (.int .i64 0)).setCell ⟨yb, 1, none⟩ (.int .i64 0)).setCell ⟨yb, 2, none⟩ (.slice none 0 0)) := hZ
      have hzT : Tri yb (.int .i64 0) (.int .i64 0) (.slice none 0 0) Z := by rw [hZ]; exact hyT.put _ _ _
      have hzR : Tri (w.heap.size + 1) (.int .i64 0) (.int .i64 0) (.slice none 0 0) Z := by rw [hZ]; exact ((hrT.aside _ hye).aside _ hye).aside _ hye
      have hbz : Below w.heap.size w Z := by rw [hZ]; exact put_below hbw hyw _ _ _
      obtain ⟨j0, j1, j2, jf⟩ := hyT
      have k0 := jf 0
      have k1 := jf 1
      have k2 := jf 2
      obtain ⟨y0, y1, y2, _⟩ := hzT
      obtain ⟨v0, v1, v2, vf⟩ := hzR
      have z0 := vf 0
      have z1 := vf 1
      have z2 := vf 2
      have HPT : Hid (Tri (w.heap.size + 1) (.int .i64 0) (.int .i64 0) (.slice none 0 0) (((Z.setCell ⟨w.heap.size + 1, 0, none⟩ (.int .i64 0)).setCell ⟨w.heap.size + 1, 1, none⟩ (.int .i64 0)).setCell ⟨w.heap.size + 1, 2, none⟩ (.slice none 0 0))) := ⟨(Tri.put ⟨v0, v1, v2, vf⟩ _ _ _).c0, (Tri.put ⟨v0, v1, v2, vf⟩ _ _ _).c1, (Tri.put ⟨v0, v1, v2, vf⟩ _ _ _).c2, (Tri.put ⟨v0, v1, v2, vf⟩ _ _ _).free⟩
      have HBT : Hid (Below w.heap.size w (((Z.setCell ⟨w.heap.size + 1, 0, none⟩ (.int .i64 0)).setCell ⟨w.heap.size + 1, 1, none⟩ (.int .i64 0)).setCell ⟨w.heap.size + 1, 2, none⟩ (.slice none 0 0))) := put_below hbz (by omega) _ _ _
      clear hY hyb hbw hb2Y vf hi hn hZ hbz hye hyw jf hrT
      go_wp2_with (first | (rw [← HZ.out]) | (rw [← HY.out, ← HYB.out]) | (rw [← HY.out]))
      refine bodyPost_ret (v := .tuple #[.agg #[.int .i64 0, .int .i64 0, .slice none 0 0], .bool false]) ?_ rfl (HNO.out HR2.out rfl HBT.out)
      obtain ⟨q0, q1, q2, _⟩ := HPT.out
      simp [results, Try.results60, go_sem, q0, q1, q2]
theorem pair_set {w : World} {b : Nat} {v0 v1 : Value} (h0 : w.cell? ⟨b, 0, none⟩ = some v0) (h1 : w.cell? ⟨b, 1, none⟩ = some v1) (x0 x1 : Value) :
    ((w.setCell ⟨b, 0, none⟩ x0).setCell ⟨b, 1, none⟩ x1).cell? ⟨b, 0, none⟩ = some x0 ∧ ((w.setCell ⟨b, 0, none⟩ x0).setCell ⟨b, 1, none⟩ x1).cell? ⟨b, 1, none⟩ = some x1 :=
  ⟨by rw [World.cell?_setCell_other _ _ _ _ (cell_ne b 1 0 (by omega))]; exact World.cell?_setCell_same _ _ _ h0, World.cell?_setCell_same _ _ _ (by rw [World.cell?_setCell_other _ _ _ _ (cell_ne b 0 1 (by omega))]; exact h1)⟩
set_option maxHeartbeats 2000000 in
set_option maxRecDepth 20000 in
theorem impl_yobj (w : World) (a : Option Addr) (cap : Nat) (xs : List ByteArray) (z : Int) (a2 : Option Addr) (n vcap : Nat) (ws : List Int) (r : Int) (hr : r < 9223372036854775808) (hx : ws.length = n) (hxn : xs.length ≤ 1048576) (hl : Strs w a xs) (hz : ∀ i (hi : i < xs.length), xs[i].size ≤ 1048576) (hn : n ≤ 1048576) (hcap : n ≤ vcap) (hv : Nums w a2 ws) (hh : ∀ x ∈ ws, x < 9223372036854775808) :
    Calls Try.prog 35 #[.slice a xs.length cap, .agg #[.int .i64 z, .slice a2 n vcap], .int .i64 r] w fun e w' => AOut (fun s => .tuple #[.agg #[.int .i64 (yobT ws (startsN xs z ws) r), s], .bool (yobB (startsN xs z ws) r)]) (yobV xs ws (startsN xs z ws) r) w e w' := by
  obtain ⟨W, hW⟩ : ∃ W, W = (w.alloc (.cells #[.int .i64 z, .slice a2 n vcap] 31)).alloc (.cells #[.int .i64 0, .slice none 0 0] 52) := ⟨_, rfl⟩
  have HW : Hid (W = (w.alloc (.cells #[.int .i64 z, .slice a2 n vcap] 31)).alloc (.cells #[.int .i64 0, .slice none 0 0] 52)) := hW
  have hb0 : Below w.heap.size w W := by rw [hW]; exact ((Below.refl _ _).alloc (Nat.le_refl _) _).alloc (by simp) _
  have hsz : W.heap.size = w.heap.size + 2 := by rw [hW]; simp
  have c0 : W.cell? ⟨w.heap.size, 0, none⟩ = some (.int .i64 z) := by rw [hW, World.cell?_alloc_past _ _ _ (by simp), World.cell?_alloc_at _ _ _ _ (by simp)]; rfl
  have c1 : W.cell? ⟨w.heap.size, 1, none⟩ = some (.slice a2 n vcap) := by rw [hW, World.cell?_alloc_past _ _ _ (by simp), World.cell?_alloc_at _ _ _ _ (by simp)]; rfl
  have r0 : W.cell? ⟨w.heap.size + 1, 0, none⟩ = some (.int .i64 0) := by rw [hW, World.cell?_alloc_at _ _ _ _ (by simp)]; rfl
  have r1 : W.cell? ⟨w.heap.size + 1, 1, none⟩ = some (.slice none 0 0) := by rw [hW, World.cell?_alloc_at _ _ _ _ (by simp)]; rfl
  have rf : ∀ k, W.frozen? ⟨w.heap.size + 1, k, none⟩ = false := fun k => by rw [hW, World.frozen?_alloc_at _ _ _ _ (by simp)]
  have HRC : Hid (∀ w', Below W.heap.size W w' → w'.cell? ⟨w.heap.size + 1, 0, none⟩ = some (.int .i64 0) ∧ w'.cell? ⟨w.heap.size + 1, 1, none⟩ = some (.slice none 0 0) ∧ ∀ k, w'.frozen? ⟨w.heap.size + 1, k, none⟩ = false) := fun w' h =>
    ⟨by rw [h.cell (p := ⟨w.heap.size + 1, 0, none⟩) (by show w.heap.size + 1 < _; omega)]; exact r0, by rw [h.cell (p := ⟨w.heap.size + 1, 1, none⟩) (by show w.heap.size + 1 < _; omega)]; exact r1, fun k => by rw [h.frozen (p := ⟨w.heap.size + 1, k, none⟩) (by show w.heap.size + 1 < _; omega)]; exact rf k⟩
  have HB0 : Hid (Below w.heap.size w W) := hb0
  have HSZ : Hid (W.heap.size = w.heap.size + 2) := hsz
  have HOP : Hid (Calls _ _ _ W _) := opened_any W a cap xs z a2 n vcap ws hx hxn (hl.below hb0) hz hn hcap (hv.below hb0) hh
  clear hW hl hv hb0 hx hh hz hsz r0 r1 rf
  go_enter Try.func35, Try.ntmps35
  go_wp2_with (rw [← HW.out])
  refine HOP.out.mono ?_
  rintro e w2 ⟨hb2, ta, tn, tc, sa, sc, mo, rfl, _, hlk, _, _⟩
  obtain ⟨Y, hY⟩ : ∃ Y, Y = w2.alloc (.cells #[.slice ta tn tc, .slice sa (startsN xs z ws).length sc, .map mo] 60) := ⟨_, rfl⟩
  obtain ⟨yb, hyb⟩ : ∃ yb, yb = w2.heap.size := ⟨_, rfl⟩
  have HY : Hid (Y = w2.alloc (.cells #[.slice ta tn tc, .slice sa (startsN xs z ws).length sc, .map mo] 60)) := hY
  have HYB : Hid (yb = w2.heap.size) := hyb
  have hbY : Below w2.heap.size w2 Y := by rw [hY]; exact (Below.refl _ _).alloc (Nat.le_refl _) _
  have htY : Tri yb (.slice ta tn tc) (.slice sa (startsN xs z ws).length sc) (.map mo) Y := by rw [hY, hyb]; exact Tri.start w2 _ _ _ _
  have hWY : Below W.heap.size W Y := hb2.trans (hbY.mono hb2.size)
  have HWY : Hid (Below W.heap.size W Y) := hWY
  have HOB : Hid (Calls _ _ _ Y _) := objectOf_any Y (.slice ta tn tc) (.slice sa (startsN xs z ws).length sc) mo W.heap.size xs ws (startsN xs z ws) r hr (hlk.below hbY) (hWY.size) ⟨_, _, _, _, _, _, rfl, rfl⟩
  obtain ⟨t0, t1, t2, _⟩ := htY
  clear hb2 hY hyb hbY hlk hWY hr
  go_wp2_with (first | (rw [← HY.out, ← HYB.out]) | (rw [← HY.out]))
  refine HOB.out.mono ?_
  rintro e w3 ⟨a3, g3, c3, rfl, hg3, hi3, hb3⟩
  have HW3 : Hid (Below W.heap.size W w3) := HWY.out.trans (hb3.mono HWY.out.size)
  have HGL : Hid (w.heap.size + 2 ≤ g3) := by show w.heap.size + 2 ≤ g3; have := HSZ.out; omega
  have HI3 : Hid (Ints w3 a3 g3 (yobV xs ws (startsN xs z ws) r)) := hi3
  clear hb3 hg3 hi3 t0 t1 t2
  obtain ⟨V, hV⟩ : ∃ V, V = w3.alloc (.cells #[.int .i64 (yobAge ws (startsN xs z ws) r), .int .i64 (yobT ws (startsN xs z ws) r), .slice a3 (yobV xs ws (startsN xs z ws) r).length c3] 71) := ⟨_, rfl⟩
  obtain ⟨vb, hvb⟩ : ∃ vb, vb = w3.heap.size := ⟨_, rfl⟩
  have HV : Hid (V = w3.alloc (.cells #[.int .i64 (yobAge ws (startsN xs z ws) r), .int .i64 (yobT ws (startsN xs z ws) r), .slice a3 (yobV xs ws (startsN xs z ws) r).length c3] 71)) := hV
  have HVB : Hid (vb = w3.heap.size) := hvb
  have hbV : Below w3.heap.size w3 V := by rw [hV]; exact (Below.refl _ _).alloc (Nat.le_refl _) _
  have htV : Tri vb (.int .i64 (yobAge ws (startsN xs z ws) r)) (.int .i64 (yobT ws (startsN xs z ws) r)) (.slice a3 (yobV xs ws (startsN xs z ws) r).length c3) V := by rw [hV, hvb]; exact Tri.start w3 _ _ _ _
  have hWV : Below W.heap.size W V := HW3.out.trans (hbV.mono HW3.out.size)
  obtain ⟨r0, r1, rf⟩ := HRC.out V hWV
  have f0 := rf 0
  have f1 := rf 1
  have HC2 : Hid (∀ x0 x1, _) := pair_set r0 r1
  have HBE : Hid (∀ x0 x1, Below w.heap.size w ((V.setCell ⟨w.heap.size + 1, 0, none⟩ x0).setCell ⟨w.heap.size + 1, 1, none⟩ x1)) := fun x0 x1 => ((HB0.out.trans (hWV.mono HB0.out.size)).setCell (p := ⟨w.heap.size + 1, 0, none⟩) (by show w.heap.size ≤ w.heap.size + 1; omega) _).setCell (p := ⟨w.heap.size + 1, 1, none⟩) (by show w.heap.size ≤ w.heap.size + 1; omega) _
  have HIE : Hid (∀ x0 x1, Ints ((V.setCell ⟨w.heap.size + 1, 0, none⟩ x0).setCell ⟨w.heap.size + 1, 1, none⟩ x1) a3 g3 (yobV xs ws (startsN xs z ws) r)) := fun x0 x1 => ((HI3.out.below hbV).grown (grown_set _ _ _ _) (by have := HGL.out; omega)).grown (grown_set _ _ _ _) (by have := HGL.out; omega)
  obtain ⟨t0, t1, t2, _⟩ := htV
  clear hV hvb hbV hWV rf
  go_wp2_with (first | (rw [← HV.out, ← HVB.out]) | (rw [← HV.out]))
  refine bodyPost_ret (v := .tuple #[.agg #[.int .i64 (yobT ws (startsN xs z ws) r), .slice a3 (yobV xs ws (startsN xs z ws) r).length c3], .bool (yobB (startsN xs z ws) r)]) ?_ rfl ⟨a3, g3, c3, rfl, by have := HGL.out; omega, HIE.out _ _, HBE.out _ _⟩
  obtain ⟨q0, q1⟩ := HC2.out (.int .i64 (yobT ws (startsN xs z ws) r)) (.slice a3 (yobV xs ws (startsN xs z ws) r).length c3)
  simp [results, Try.results35, go_sem, q0, q1]
end Go.Proofs.Ytngpmohmnpbcnaa.nu
