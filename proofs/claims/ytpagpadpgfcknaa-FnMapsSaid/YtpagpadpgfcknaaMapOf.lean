/-
  MapOf, by the program and by the specification; nothing that was there is written.
-/
import Derived.Test.YtpagpadpgfcknaaBits6
import Derived.Test.YtpagpadpgfcknaaRises
import Derived.BigQuiet
import Derived.Deep.QuietTactic
namespace Go.Proofs.Ytpagpadpgfcknaa.lb
open Go.RowKit
open ints

/-- The number ahead of the k-th one. -/
def prevN (xs : List Int) : Nat → Int
  | 0 => -1
  | k + 1 => xs.getD k 0
def okN (xs : List Int) : Nat → Bool
  | 0 => true
  | k + 1 => okN xs k && (decide (prevN xs k < xs.getD k 0) && decide (xs.getD k 0 < 128))
def setsK (xs : List Int) : Nat → List UInt8
  | 0 => zeros
  | k + 1 => setBit (setsK xs k) (xs.getD k 0).toNat
def mapOfS (xs : List Int) : ByteArray := if okN xs xs.length = true then ⟨(setsK xs xs.length).toArray⟩ else ⟨#[]⟩
theorem setsK_length (xs : List Int) (k : Nat) : (setsK xs k).length = 64 := by
  induction k with
  | zero => exact zeros_length
  | succ k ih => rw [setsK, setBit_length, ih]
theorem okN_le (xs : List Int) (k n : Nat) (h : k ≤ n) (hf : okN xs k = false) : okN xs n = false := by
  induction n with
  | zero => rw [show k = 0 by omega] at hf; exact hf
  | succ n ih =>
    by_cases e : k = n + 1
    · rw [← e]; exact hf
    · rw [okN, ih (by omega)]; rfl
theorem prevN_ge (xs : List Int) (k : Nat) (h : okN xs k = true) : -1 ≤ prevN xs k ∧ (0 < k → 0 ≤ prevN xs k) ∧ prevN xs k < 128 := by
  induction k with
  | zero => simp [prevN]
  | succ k ih =>
    rw [okN, Bool.and_eq_true, Bool.and_eq_true] at h
    obtain ⟨h1, h2, h3⟩ := h
    have := ih h1
    have h2' := of_decide_eq_true h2
    have h3' := of_decide_eq_true h3
    rw [prevN]
    exact ⟨by omega, fun _ => by omega, by omega⟩
theorem getD_int (xs : List Int) (k : Nat) (h : k < xs.length) : xs[k] = xs.getD k 0 := by
  rw [List.getD_eq_getElem?_getD, List.getElem?_eq_getElem h]; rfl
theorem prevI_N (xs : List Int) (k : Nat) : prevI xs k = prevN xs k := by cases k <;> rfl
theorem riseN_okN (xs : List Int) (k : Nat) : riseN xs 127 k = okN xs k := by
  induction k with
  | zero => rfl
  | succ k ih =>
    rw [riseN, okN, ih, prevI_N]
    have : decide (xs.getD k 0 ≤ 127) = decide (xs.getD k 0 < 128) := by
      by_cases h : xs.getD k 0 ≤ 127
      · rw [decide_eq_true h, decide_eq_true (by omega)]
      · rw [decide_eq_false h, decide_eq_false (by omega)]
    rw [this]
theorem okN_in (xs : List Int) (hok : okN xs xs.length = true) (k : Nat) (hk : k < xs.length) : 0 ≤ xs.getD k 0 ∧ xs.getD k 0 < 128 := by
  have h1 : okN xs (k + 1) = true := by
    cases h : okN xs (k + 1) with
    | true => rfl
    | false => rw [okN_le xs (k + 1) xs.length (by omega) h] at hok; cases hok
  have h2 := prevN_ge xs (k + 1) h1
  exact ⟨h2.2.1 (by omega), h2.2.2⟩
set_option maxHeartbeats 4000000 in
theorem impl_map (w : World) (a : Option Addr) (cap : Nat) (xs : List Int) (hn : xs.length ≤ 1048576) (hl : Nums w a xs) :
    Calls Try.prog 7 #[.slice a xs.length cap] w fun e w' => e = .returned (.string (mapOfS xs)) ∧ Below w.heap.size w w' := by
  obtain ⟨W, hW⟩ : ∃ W, W = w.alloc (.cells (cs zeros) 40) := ⟨_, rfl⟩
  have hb0 : Below w.heap.size w W := by rw [hW]; exact (Below.refl _ _).alloc (Nat.le_refl _) _
  have HR0 : Hid (Row W w.heap.size zeros) := by rw [hW]; exact heap_alloc_last w _
  have HW : Hid (W = w.alloc (.cells (cs zeros) 40)) := hW
  have HN : Hid (∀ w', Below w.heap.size w w' → Nums w' a xs) := fun w' h => hl.below h
  have HB0 : Hid (Below w.heap.size w W) := hb0
  have HRUN : Hid (∀ p : Nat, p < 128 → ∀ w, Calls Try.prog 22 #[.int .i64 (p : Int), .int .i64 1] w fun e w' => e = .returned (.agg (cs (runK p 1))) ∧ Below w.heap.size w w') := fun p hp w => run_any p 1 (by omega) w
  have HMS : Hid (mapOfS xs = if okN xs xs.length = true then ⟨(setsK xs xs.length).toArray⟩ else ⟨#[]⟩) := rfl
  generalize mapOfS xs = res at HMS ⊢
  have HRI : Hid (∀ w', Below w.heap.size w w' → _) := fun w' h => rises_any w' a cap xs 127 hn (hl.below h)
  rw [riseN_okN] at HRI
  clear hW hl hb0
  cases hok : okN xs xs.length with
  | false =>
    rw [hok] at HRI HMS
    go_enter Try.func7, Try.ntmps7
    go_wp2_with fail
    refine (HRI.out w (Below.refl _ _)).mono ?_
    rintro e w' ⟨rfl, rfl⟩
    go_wp2
    go_ret
    exact ⟨by rw [HMS.out]; rfl, Below.refl _ _⟩
  | true =>
  rw [hok] at HRI
  have HAL : Hid (okN xs xs.length = true) := hok
  have HIN : Hid (∀ k, k < xs.length → 0 ≤ xs.getD k 0 ∧ xs.getD k 0 < 128) := okN_in xs hok
  clear hok
  go_enter Try.func7, Try.ntmps7
  go_wp2_with fail
  refine (HRI.out w (Below.refl _ _)).mono ?_
  rintro e w' ⟨rfl, rfl⟩
  clear HRI
  go_wp2
  rw [zero_cs, ← HW.out]
  go_loopw [11] (fun i wr => ∃ k : Nat, k ≤ xs.length ∧ i = .int .i64 (k : Int) ∧ Row wr w.heap.size (setsK xs k) ∧ Below w.heap.size w wr) (fun i _ => xs.length - (intOf i).toNat)
  case atStart => exact ⟨0, Nat.zero_le _, rfl, HR0.out, HB0.out⟩
  case round =>
    obtain ⟨k, hk, rfl, hrow, hb⟩ := hrel
    have HR : Hid (Row wr w.heap.size (setsK xs k)) := hrow
    have HB : Hid (Below w.heap.size w wr) := hb
    clear hrow hb
    by_cases hlt : k < xs.length
    · have hlti : (k : Int) < (xs.length : Int) := by omega
      obtain ⟨b, off, rfl, c0⟩ := HN.out wr HB.out k hlt
      rw [getD_int xs k hlt] at c0
      have HSS : Hid (setsK xs (k + 1) = setBit (setsK xs k) (xs.getD k 0).toNat) := rfl
      have hsl := setsK_length xs k
      obtain ⟨hp1, hp3⟩ := HIN.out k hlt
      generalize xs.getD k 0 = x at c0 HSS hp1 hp3
      generalize setsK xs k = S at HR HSS hsl
      obtain ⟨p, rfl⟩ := Int.eq_ofNat_of_zero_le (by omega : 0 ≤ x)
      have HC : Hid (∀ w, _) := HRUN.out p (by omega)
      have HWI : Hid (∀ w, _) := fun w => with_any S (runK p 1) hsl (runK_length p 1) w
      have HSB : Hid (mix (· ||| ·) S (runK p 1) = setBit S p) := with_setBit S hsl p (by omega)
      have hml : (mix (· ||| ·) S (runK p 1)).length = 64 := by rw [mix_length]; exact hsl
      generalize mix (· ||| ·) S (runK p 1) = M at HWI HSB hml
      generalize runK p 1 = r at HC HWI
      have HSL : Hid (S.length = 64) := hsl
      have HML : Hid (M.length = 64) := hml
      have hwlt : w.heap.size < wr.heap.size := (Array.getElem?_eq_some_iff.1 HR.out).1
      have HQ : Hid (∀ w', Below wr.heap.size wr w' → Row w' w.heap.size S) := fun w' h => HR.out.below h hwlt
      clear hsl hml
      go_wp2
      refine wp_region_held_drew (S := fun _ => True) (by kernel_rfl) trivial (fun hH => ?_)
      refine wpAnyH_take (i := 1) rfl (by kernel_rfl) (by kernel_rfl) (by kernel_rfl) (fun _ _ _ h => h) (v := .int .i64 (p : Int)) (Or.inl ⟨by rfl, fun w _ => rfl⟩) hH ?_
      clear hH
      refine wpAnyH_ready (rs := [0, 2]) (by kernel_rfl) (by simp) ?_
      refine AllReadyH.cons rfl (fun K hK => ?_) (AllReadyH.cons rfl (fun K hK => ?_) AllReadyH.nil)
      · rw [if_pos (by rfl)]
        refine wp_load_row _ rfl _ rfl S HR.out HSL.out ?_
        refine hK.out _ _ trivial (fun hH => ?_)
        clear hK K hH
        refine wpAnyH_ready (rs := [2]) (by kernel_rfl) (by simp) ?_
        refine AllReadyH.cons rfl (fun K hK => ?_) AllReadyH.nil
        · rw [if_pos (by rfl)]
          go_simp
          refine (HC.out _).mono ?_
          rintro e w5 ⟨rfl, hb5⟩
          have H5 : Hid (Below wr.heap.size wr w5) := ⟨hb5.os, hb5.tape, hb5.output, hb5.size, hb5.block⟩
          refine hK.out _ _ trivial (fun hH => ?_)
          clear hK K hH hb5
          refine wpAnyH_ready (rs := [3]) (by kernel_rfl) (by simp) ?_
          refine AllReadyH.cons rfl (fun K hK => ?_) AllReadyH.nil
          rw [if_pos (by rfl)]
          go_simp
          refine (HWI.out _).mono ?_
          rintro e w6 ⟨rfl, hb6⟩
          have h6 : Below wr.heap.size wr w6 := H5.out.trans (hb6.mono H5.out.size)
          have HR6 : Hid (Row w6 w.heap.size S) := HQ.out _ h6
          have HB6 : Hid (Below w.heap.size w w6) := HB.out.trans (h6.mono HB.out.size)
          refine hK.out _ _ trivial (fun hH => ?_)
          clear hK K hH h6 hb6
          refine wpAnyH_ready (rs := [4]) (by kernel_rfl) (by simp) ?_
          refine AllReadyH.cons rfl (fun K hK => ?_) AllReadyH.nil
          rw [if_pos (by rfl)]
          refine wp_store_row _ _ rfl _ rfl M rfl S HR6.out HSL.out HML.out ?_
          refine hK.out _ _ trivial (fun hH => ?_)
          clear hK K hH
          refine wpAnyH_done (by kernel_rfl) ?_ _
          have HR7 : Hid (Row (w6.setRow w.heap.size (cs M)) w.heap.size M) := HR6.out.stored
          have HB7 : Hid (Below w.heap.size w (w6.setRow w.heap.size (cs M))) := below_setRow HB6.out (Nat.le_refl _) _
          generalize w6.setRow w.heap.size (cs M) = w7 at HR7 HB7
          go_wp2
          go_roundw
          case rel => exact ⟨k + 1, by omega, by go_num, by rw [HSS.out, Int.toNat_natCast, ← HSB.out]; exact HR7.out, HB7.out⟩
          case measure => simp [intOf]; omega
      · rw [if_pos (by rfl)]
        go_simp
        refine (HC.out _).mono ?_
        rintro e w5 ⟨rfl, hb5⟩
        have H5 : Hid (Below wr.heap.size wr w5) := ⟨hb5.os, hb5.tape, hb5.output, hb5.size, hb5.block⟩
        refine hK.out _ _ trivial (fun hH => ?_)
        clear hK K hH hb5
        refine wpAnyH_ready (rs := [0]) (by kernel_rfl) (by simp) ?_
        refine AllReadyH.cons rfl (fun K hK => ?_) AllReadyH.nil
        · rw [if_pos (by rfl)]
          refine wp_load_row _ rfl _ rfl S (HQ.out _ H5.out) HSL.out ?_
          refine hK.out _ _ trivial (fun hH => ?_)
          clear hK K hH
          refine wpAnyH_ready (rs := [3]) (by kernel_rfl) (by simp) ?_
          refine AllReadyH.cons rfl (fun K hK => ?_) AllReadyH.nil
          rw [if_pos (by rfl)]
          go_simp
          refine (HWI.out _).mono ?_
          rintro e w6 ⟨rfl, hb6⟩
          have h6 : Below wr.heap.size wr w6 := H5.out.trans (hb6.mono H5.out.size)
          have HR6 : Hid (Row w6 w.heap.size S) := HQ.out _ h6
          have HB6 : Hid (Below w.heap.size w w6) := HB.out.trans (h6.mono HB.out.size)
          refine hK.out _ _ trivial (fun hH => ?_)
          clear hK K hH h6 hb6
          refine wpAnyH_ready (rs := [4]) (by kernel_rfl) (by simp) ?_
          refine AllReadyH.cons rfl (fun K hK => ?_) AllReadyH.nil
          rw [if_pos (by rfl)]
          refine wp_store_row _ _ rfl _ rfl M rfl S HR6.out HSL.out HML.out ?_
          refine hK.out _ _ trivial (fun hH => ?_)
          clear hK K hH
          refine wpAnyH_done (by kernel_rfl) ?_ _
          have HR7 : Hid (Row (w6.setRow w.heap.size (cs M)) w.heap.size M) := HR6.out.stored
          have HB7 : Hid (Below w.heap.size w (w6.setRow w.heap.size (cs M))) := below_setRow HB6.out (Nat.le_refl _) _
          generalize w6.setRow w.heap.size (cs M) = w7 at HR7 HB7
          go_wp2
          go_roundw
          case rel => exact ⟨k + 1, by omega, by go_num, by rw [HSS.out, Int.toNat_natCast, ← HSB.out]; exact HR7.out, HB7.out⟩
          case measure => simp [intOf]; omega
    · have hk2 : k = xs.length := by omega
      subst hk2
      have HRES : Hid (res = ⟨(setsK xs xs.length).toArray⟩) := by
        show res = _
        rw [HMS.out, HAL.out]; rfl
      have hsl := setsK_length xs xs.length
      have HT : Hid (∀ w, _) := fun w => text_any (setsK xs xs.length) hsl w
      generalize setsK xs xs.length = S at HR HRES hsl HT
      have HSL : Hid (S.length = 64) := hsl
      clear hsl
      go_wp2_with (refine wpList_loadRow _ rfl _ rfl _ rfl S HR.out HSL.out ?_)
      refine (HT.out _).mono ?_
      rintro e w5 ⟨rfl, hb5⟩
      go_wp2
      go_ret
      exact ⟨by rw [HRES.out]; rfl, HB.out.trans (hb5.mono HB.out.size)⟩
set_option maxHeartbeats 4000000 in
theorem l6MapOf_any (w : World) (a : Option Addr) (cap : Nat) (xs : List Int) (hn : xs.length ≤ 1048576) (hl : Nums w a xs) (hok : okN xs xs.length = true) :
    Calls Try.prog 28 #[.slice a xs.length cap] w fun e w' => e = .returned (.string ⟨(setsK xs xs.length).toArray⟩) ∧ Below w.heap.size w w' := by
  have hmk : (Instr.makeSlice 22 (.int .i64 64) (.int .i64 64)).run Try.prog w = .ok (.slice (some ⟨w.heap.size, 0, none⟩) 64 64) (w.alloc (.cells (lst (List.replicate 64 0)).toArray 5)) := make_nulls 64 (by omega) w
  have HN : Hid (∀ w', Below w.heap.size w w' → Nums w' a xs) := fun w' h => hl.below h
  have HIN : Hid (∀ k, k < xs.length → 0 ≤ xs.getD k 0 ∧ xs.getD k 0 < 128) := fun k hk => by
    have h1 : okN xs (k + 1) = true := by
      cases h : okN xs (k + 1) with
      | true => rfl
      | false => rw [okN_le xs (k + 1) xs.length (by omega) h] at hok; cases hok
    have h2 := prevN_ge xs (k + 1) h1
    exact ⟨h2.2.1 (by omega), h2.2.2⟩
  have HB0 : Hid (Below w.heap.size w (w.alloc (.cells (lst (List.replicate 64 0)).toArray 5))) := by show Below _ _ _; go_grown
  have HR0 : Hid (bb.Bytes (w.alloc (.cells (lst (List.replicate 64 0)).toArray 5)) w.heap.size zeros) := by
    intro j hj
    have hg : (w.alloc (.cells (lst (List.replicate 64 0)).toArray 5)).heap[w.heap.size]? = some (.cells (lst (List.replicate 64 0)).toArray 5) := heap_alloc_last w _
    refine ⟨?_, frozen_of_row _ _ j _ _ hg⟩
    rw [cell_of_row _ _ j _ _ _ hg]
    exact cs_get zeros j hj
  generalize w.alloc (.cells (lst (List.replicate 64 0)).toArray 5) = w1 at hmk HB0 HR0
  clear hl hok
  go_enter Try.func28, Try.ntmps28
  go_wp2
  clear hmk
  go_loopw [4] (fun i wr => ∃ k : Nat, k ≤ xs.length ∧ i = .int .i64 (k : Int) ∧ bb.Bytes wr w.heap.size (setsK xs k) ∧ Below w.heap.size w wr) (fun i _ => xs.length - (intOf i).toNat)
  case atStart => exact ⟨0, Nat.zero_le _, rfl, HR0.out, HB0.out⟩
  case round =>
    obtain ⟨k, hk, rfl, hrow, hb⟩ := hrel
    have HR : Hid (bb.Bytes wr w.heap.size (setsK xs k)) := hrow
    have HB : Hid (Below w.heap.size w wr) := hb
    clear hrow hb
    have hsl := setsK_length xs k
    by_cases hlt : k < xs.length
    · have hlti : (k : Int) < (xs.length : Int) := by omega
      have hk0 : (0 : Int) ≤ (k : Int) := by omega
      obtain ⟨b, off, rfl, cx⟩ := HN.out wr HB.out k hlt
      rw [getD_int xs k hlt] at cx
      have HSS : Hid (setsK xs (k + 1) = setBit (setsK xs k) (xs.getD k 0).toNat) := rfl
      obtain ⟨hx0, hx1⟩ := HIN.out k hlt
      generalize xs.getD k 0 = x at cx HSS hx0 hx1
      obtain ⟨g, rfl⟩ := Int.eq_ofNat_of_zero_le hx0
      rw [Int.toNat_natCast] at HSS
      generalize setsK xs k = cur at HR HSS hsl
      have c0 := (HR.out (g / 8) (by omega)).1
      rw [getD_at _ (g / 8) (by omega)] at c0
      have f0 := (HR.out (g / 8) (by omega)).2
      have HO : Hid (bits BinOp.or IntKind.u8 ((cur.getD (g / 8) 0).toNat : Int) (2 ^ (g % 8) % 256) = ((cur.getD (g / 8) 0 ||| bitOf g).toNat : Int)) := or_walk _ _
      have HSB : Hid (setBit cur g = cur.set (g / 8) (cur.getD (g / 8) 0 ||| bitOf g)) := rfl
      generalize cur.getD (g / 8) 0 = x at c0 HO HSB
      have hq : (g : Int) / 8 < 64 := by omega
      have hq0 : (0 : Int) ≤ (g : Int) / 8 := by omega
      have hm0 : (0 : Int) ≤ (g : Int) % 8 := by omega
      have hm1 : (g : Int) % 8 < 8 := by omega
      have HSL : Hid (cur.length = 64) := hsl
      clear hsl hx0
      go_wp2
      go_region
      all_goals go_wp2
      all_goals go_roundw
      case rel =>
        refine ⟨k + 1, by omega, by go_num, ?_, (HB.out.setCell (p := ⟨w.heap.size, g / 8, none⟩) (Nat.le_refl _) _).drew⟩
        rw [HSS.out, HSB.out]
        exact HR.out.set (g / 8) (by have := HSL.out; omega) _ _ (by rw [HO.out])
      case measure => simp [intOf]; omega
    · have hk2 : k = xs.length := by omega
      subst hk2
      have hcv := HR.out.text 64
      rw [hsl] at hcv
      obtain ⟨st, hst⟩ : ∃ st, st = ByteArray.mk (setsK xs xs.length).toArray := ⟨_, rfl⟩
      rw [← hst] at hcv
      have HST : Hid (st = ByteArray.mk (setsK xs xs.length).toArray) := hst
      clear hst hsl
      go_wp2
      go_ret
      exact ⟨by rw [← HST.out]; rfl, HB.out⟩
set_option maxHeartbeats 4000000 in
theorem spec_map (w : World) (a : Option Addr) (cap : Nat) (xs : List Int) (hn : xs.length ≤ 1048576) (hl : Nums w a xs) :
    Calls Try.prog 10 #[.slice a xs.length cap] w fun e w' => e = .returned (.string (mapOfS xs)) ∧ Below w.heap.size w w' := by
  have HN : Hid (∀ w', Below w.heap.size w w' → Nums w' a xs) := fun w' h => hl.below h
  have HMS : Hid (mapOfS xs = if okN xs xs.length = true then ⟨(setsK xs xs.length).toArray⟩ else ⟨#[]⟩) := rfl
  have HL6 : Hid (okN xs xs.length = true → ∀ w', Below w.heap.size w w' → Calls Try.prog 28 #[.slice a xs.length cap] w' fun e w'' => e = .returned (.string ⟨(setsK xs xs.length).toArray⟩) ∧ Below w'.heap.size w' w'') := fun h w' hb => l6MapOf_any w' a cap xs hn (hl.below hb) h
  generalize mapOfS xs = res at HMS ⊢
  clear hl
  go_enter Try.func10, Try.ntmps10
  go_wp2
  go_loopw [3] (fun i wr => ∃ k : Nat, k ≤ xs.length ∧ i = .int .i64 (k : Int) ∧ okN xs k = true ∧ Below w.heap.size w wr) (fun i _ => xs.length - (intOf i).toNat)
  case atStart => exact ⟨0, Nat.zero_le _, rfl, rfl, Below.refl _ _⟩
  case round =>
    obtain ⟨k, hk, rfl, hok, hb⟩ := hrel
    have HB : Hid (Below w.heap.size w wr) := hb
    have HOK : Hid (okN xs k = true) := hok
    have hpv := prevN_ge xs k hok
    clear hb hok
    by_cases hlt : k < xs.length
    · have hlti : (k : Int) < (xs.length : Int) := by omega
      have hk0 : (0 : Int) ≤ (k : Int) := by omega
      obtain ⟨b, off, rfl, c0⟩ := HN.out wr HB.out k hlt
      rw [getD_int xs k hlt] at c0
      have HST : Hid (okN xs (k + 1) = (decide (prevN xs k < xs.getD k 0) && decide (xs.getD k 0 < 128))) := by
        show okN xs (k + 1) = _
        rw [okN, HOK.out]; rfl
      have HLE : Hid (okN xs (k + 1) = false → okN xs xs.length = false) := okN_le xs (k + 1) xs.length (by omega)
      have HIN : Hid (∀ w : World, Calls Try.prog 27 #[.int .i64 (xs.getD k 0), .int .i64 0, .int .i64 127] w fun e w' => e = .returned (.bool (decide (0 ≤ xs.getD k 0) && decide (xs.getD k 0 ≤ 127))) ∧ w' = w) := fun w => (in_any w (xs.getD k 0) 0 127).mono fun _ _ ⟨h1, h2⟩ => ⟨h1, h2.symm⟩
      cases hin : (decide (0 ≤ xs.getD k 0) && decide (xs.getD k 0 ≤ 127)) with
      | false =>
        rw [hin] at HIN
        have HNO : Hid (res = ⟨#[]⟩) := by
          show res = _
          have h1 : okN xs (k + 1) = false := by
            rw [HST.out]
            simp at hin ⊢
            omega
          rw [HMS.out, HLE.out h1]; rfl
        generalize xs.getD k 0 = x at c0 HIN hin
        clear hin hpv
        go_wp2
        go_quiet (first | (go_at_call 27; refine Calls.quiet_of_same (HIN.out _)))
        go_wp2
        go_ret
        exact ⟨by rw [HNO.out]; rfl, ⟨HB.out.os, HB.out.tape, HB.out.output, HB.out.size, HB.out.block⟩⟩
      | true =>
        rw [hin] at HIN
        have hx : 0 ≤ xs.getD k 0 ∧ xs.getD k 0 ≤ 127 := by simpa using hin
        clear hin
        cases k with
        | zero =>
          have HOK' : Hid (okN xs (0 + 1) = true) := by
            show okN xs (0 + 1) = true
            rw [HST.out, decide_eq_true (by show (-1 : Int) < xs.getD 0 0; omega), decide_eq_true (by omega)]; rfl
          generalize xs.getD 0 0 = x at c0 HIN hx
          rw [Nat.add_zero] at c0
          have hlen0 : (0 : Int) < (xs.length : Int) := by omega
          rw [show ((0 : Nat) : Int) = 0 from rfl]
          obtain ⟨hx0, hx1⟩ := hx
          have HBD : Hid (∀ n, Below w.heap.size w (wr.drewN n)) := fun n => ⟨HB.out.os, HB.out.tape, HB.out.output, HB.out.size, HB.out.block⟩
          clear hpv
          go_wp2
          go_quiet (first | (go_at_call 27; refine Calls.quiet_of_same (HIN.out _)))
          go_wp2
          go_roundw
          case rel => exact ⟨0 + 1, by omega, by go_num, HOK'.out, HBD.out _⟩
          case measure => simp [intOf]; omega
        | succ j =>
          obtain ⟨b', off', he, c1⟩ := HN.out wr HB.out j (by omega)
          injection he with he
          injection he with he1 he2 _
          subst he1
          subst he2
          rw [getD_int xs j (by omega)] at c1
          have HPV : Hid (prevN xs (j + 1) = xs.getD j 0) := rfl
          have hj0 : (0 : Int) < ((j + 1 : Nat) : Int) := by omega
          have hj1 : ((j + 1 : Nat) : Int) - 1 = (j : Int) := by omega
          have hj2 : (j : Int) < (xs.length : Int) := by omega
          have HBD : Hid (∀ n, Below w.heap.size w (wr.drewN n)) := fun n => ⟨HB.out.os, HB.out.tape, HB.out.output, HB.out.size, HB.out.block⟩
          rw [HPV.out] at HST
          generalize xs.getD (j + 1) 0 = x at c0 HIN hx HST
          generalize xs.getD j 0 = y at c1 HST
          obtain ⟨hx0, hx1⟩ := hx
          clear hpv
          by_cases hxy : x ≤ y
          · have HNO : Hid (res = ⟨#[]⟩) := by
              show res = _
              rw [HMS.out, HLE.out (by rw [HST.out, decide_eq_false (by omega)]; rfl)]; rfl
            go_wp2
            go_quiet (first | (go_at_call 27; refine Calls.quiet_of_same (HIN.out _)))
            go_wp2
            go_ret
            exact ⟨by rw [HNO.out]; rfl, HBD.out _⟩
          · have HOK' : Hid (okN xs (j + 1 + 1) = true) := by
              show okN xs (j + 1 + 1) = true
              rw [HST.out, decide_eq_true (by omega), decide_eq_true (by omega)]; rfl
            go_wp2
            go_quiet (first | (go_at_call 27; refine Calls.quiet_of_same (HIN.out _)))
            go_wp2
            go_roundw
            case rel => exact ⟨j + 1 + 1, by omega, by go_num, HOK'.out, HBD.out _⟩
            case measure => simp [intOf]; omega
    · have hk2 : k = xs.length := by omega
      subst hk2
      have HRES : Hid (res = ⟨(setsK xs xs.length).toArray⟩) := by
        show res = _
        rw [HMS.out, HOK.out]; rfl
      have HC : Hid (Calls _ _ _ _ _) := HL6.out HOK.out wr HB.out
      generalize ByteArray.mk (setsK xs xs.length).toArray = st at HRES HC
      clear hpv
      go_wp2_with fail
      refine HC.out.mono ?_
      rintro e w5 ⟨rfl, hb5⟩
      go_wp2
      go_ret
      exact ⟨by rw [HRES.out]; rfl, HB.out.trans (hb5.mono HB.out.size)⟩
end Go.Proofs.Ytpagpadpgfcknaa.lb
