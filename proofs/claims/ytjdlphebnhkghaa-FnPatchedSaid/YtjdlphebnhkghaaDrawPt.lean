/-
  Images and sets that are drawn.
-/
import Derived.Test.YtjdlphebnhkghaaDrawS
import Derived.Test.YtjdlphebnhkghaaZeros
import Derived.Test.YtjdlphebnhkghaaWb
import Derived.Test.YtjdlphebnhkghaaIn
import Derived.Deep.RegionHeld3
namespace Go.Proofs.Ytjdlphebnhkghaa.pt
open Go.RowKit
open ints rd wmath wb inr

set_option maxHeartbeats 2000000 in
theorem l2With_text (w : World) (s : ByteArray) (o : Nat) (d : ByteArray) (hs : s.size ≤ 1048576) (h : o + d.size ≤ s.size) :
    Calls Try.prog 41 #[.string s, .int .i64 (o : Int), .string d] w fun e w' => ∃ t : ByteArray, e = .returned (.string t) ∧ t.size = s.size ∧ Below w.heap.size w w' := by
  have HE : Hid ((s.extract 0 o ++ d ++ s.extract (o + d.size) s.size).size = s.size) := by show (s.extract 0 o ++ d ++ s.extract (o + d.size) s.size).size = s.size; simp only [ByteArray.size_append, ByteArray.size_extract]; omega
  have h1 : (0 : Int) ≤ (o : Int) := by omega
  have h2 : (o : Int) ≤ (s.size : Int) := by omega
  have h3 : IntKind.i64.wrap ((o : Int) + (d.size : Int)) = (o : Int) + (d.size : Int) := by rw [IntKind.wrap_i64]; omega
  have h4 : (o : Int) + (d.size : Int) ≤ (s.size : Int) := by omega
  have h5 : (0 : Int) ≤ (o : Int) + (d.size : Int) := by omega
  have hz1 : (s.extract 0 o).size = o := by simp; omega
  have hz2 : (s.extract (o + d.size) s.size).size = s.size - (o + d.size) := by simp
  have h6 : (s.extract 0 o).size + d.size ≤ 1048576 := by omega
  have h7 : (s.extract 0 o ++ d).size + (s.extract (o + d.size) s.size).size ≤ 1048576 := by rw [ByteArray.size_append]; omega
  go_enter Try.func41, Try.ntmps41
  go_wp2
  go_region
  all_goals
    go_wp2
    go_ret
    exact ⟨_, rfl, HE.out, by first | exact Below.refl _ _ | exact (Below.refl _ _).drew | go_grown⟩
set_option maxHeartbeats 2000000 in
set_option maxRecDepth 20000 in
theorem draw_yw (w : World) (a : Option Addr) (len cap : Nat) (hs : len ≤ 1048576) (hc : RdCode w w.heap.size a len) :
    Calls Try.prog 12 #[.slice a len cap] w fun e w' => ∃ (t : ByteArray) (v : Value), e = .returned (.tuple #[.string t, v]) ∧ t.size ≤ 4096 ∧ ∃ xs : List Int, xs.length ≤ 10 ∧ w'.ownsRow w.heap.size 2 1 v xs.length (xs.map (Value.int .i64)) ∧ Below w.heap.size w w' := by
  have HC : Hid (RdCode w w.heap.size a len) := hc
  clear hc
  go_enter Try.func12, Try.ntmps12
  go_wp2_with fail
  refine (open_any _ a len cap hs HC.out).mono ?_
  rintro e w1 ⟨rfl, hr1, hb1⟩
  have HR1 : Hid (Rd w1 w.heap.size a len cap) := hr1
  have HB1 : Hid (Below w.heap.size w w1) := hb1
  obtain ⟨R, hR⟩ : ∃ R, R = w.heap.size := ⟨_, rfl⟩
  have HRE : Hid (R = w.heap.size) := hR
  rw [← hR] at HR1 ⊢
  have HRS : Hid (R < w1.heap.size) := by have h1 := hr1.size; rw [← hR] at h1; exact h1
  clear hr1 hb1 hR
  go_wp2_with fail
  refine (set_any _ _ a len cap HR1.out).mono ?_
  rintro e w2 ⟨v, rfl, xs, hxl, hown, hr2, hb2⟩
  have HO2 : Hid (w2.ownsRow w1.heap.size 2 1 v xs.length (xs.map (Value.int .i64))) := hown
  have HR2 : Hid (Rd w2 R a len cap) := hr2
  have HG2 : Hid (w1.grownBy w2 (some R)) := hb2
  have HXL : Hid (xs.length ≤ 10) := hxl
  clear hr2 hown hb2 hxl
  obtain ⟨av, gv, cv, rfl, _, _⟩ := ints_of_row HO2.out
  go_wp2_with fail
  refine (below_pos _ R a len cap HR2.out 4 (by omega) (by omega)).mono ?_
  rintro e w3 ⟨u, rfl, hu, hr3, hb3⟩
  have HR3 : Hid (Rd w3 R a len cap) := hr3
  have HG3 : Hid (w1.grownBy w3 (some R)) := gtrans HG2.out hb3
  have HO3 : Hid (w3.ownsRow w1.heap.size 2 1 (.slice av xs.length cv) xs.length (xs.map (Value.int .i64))) := own_rd HO2.out hb3 HRS.out
  obtain ⟨N, hN⟩ : ∃ N : Nat, N = 64 * (26 + u) := ⟨_, rfl⟩
  have HN : Hid (N ≤ 1856 ∧ 64 ≤ N) := by show _ ∧ _; omega
  obtain ⟨z, hz, hzc⟩ := zeros.zeros_text N (by omega)
  have HZC : Hid (∀ w, Calls Try.prog 37 #[.int .i64 (64 * (26 + (u : Int)))] w fun e w' => e = .returned (.string z) ∧ Below w.heap.size w w') := fun w => by
    have := hzc w
    rw [hN, show ((64 * (26 + u) : Nat) : Int) = 64 * (26 + (u : Int)) by omega] at this
    exact this
  have HZS : Hid (z.size = N) := hz
  clear hr3 hb3 hz hzc hN
  go_wp2_with fail
  refine (HZC.out _).mono ?_
  rintro e w4 ⟨rfl, hb4⟩
  have HR4 : Hid (Rd w4 R a len cap) := HR3.out.later hb4
  have HG4 : Hid (w1.grownBy w4 (some R)) := gbelow HG3.out hb4
  have HO4 : Hid (w4.ownsRow w1.heap.size 2 1 (.slice av xs.length cv) xs.length (xs.map (Value.int .i64))) := HO3.out.kept (grown_below none hb4) (by rcases hv : Value.ownBlock (.slice av xs.length cv) with _ | k; exact .inl rfl; exact .inr (by simp))
  clear hb4 HZC hu
  go_wp2
  go_loopw [6, 7] (fun im i wr => ∃ (k : Nat) (t : ByteArray), k ≤ xs.length ∧ i = .int .i64 (k : Int) ∧ im = .string t ∧ t.size = N ∧ wr.ownsRow w1.heap.size 2 1 (.slice av xs.length cv) xs.length (xs.map (Value.int .i64)) ∧ Rd wr R a len cap ∧ w1.grownBy wr (some R)) (fun _ i _ => xs.length - (intOf i).toNat)
  case atStart => exact ⟨0, z, Nat.zero_le _, rfl, rfl, HZS.out, HO4.out, HR4.out, HG4.out⟩
  case round =>
    obtain ⟨k, t, hk, rfl, rfl, ht, hown, hr, hg⟩ := hrel
    have HO : Hid (wr.ownsRow w1.heap.size 2 1 (.slice av xs.length cv) xs.length (xs.map (Value.int .i64))) := hown
    have HRr : Hid (Rd wr R a len cap) := hr
    have HG : Hid (w1.grownBy wr (some R)) := hg
    have HT : Hid (t.size = N) := ht
    have htb : t.size ≤ 1856 := by have := HN.out; omega
    have htl : 64 ≤ t.size := by have := HN.out; omega
    clear hown hr hg ht
    by_cases hlt : k < xs.length
    · have hlti : (k : Int) < (xs.length : Int) := by omega
      have hk0 : (0 : Int) ≤ (k : Int) := by omega
      have hk10 : k ≤ 10 := by have := HXL.out; omega
      obtain ⟨a5, g5, c5, hv5, hg5, hi5⟩ := ints_of_row HO.out
      injection hv5 with hv1 hv2 hv3
      subst hv1
      subst hv3
      clear hv2
      obtain ⟨rfl, e5, _⟩ := hi5 k hlt
      have hgl : g5 < wr.heap.size := World.block_lt_of_cell? wr _ e5
      have HCK : Hid (∀ w', wr.grownBy w' (some R) → w'.cell? ⟨g5, k, none⟩ = some (.int .i64 xs[k])) := fun w' h => by
        rw [World.cell?_of_block (a := ⟨g5, k, none⟩) (h.block g5 hgl (fun q => by injection q with q; have := HRS.out; omega))]; exact e5
      generalize xs[k] = x at e5 HCK
      have hdv : IntKind.i64.wrap ((t.size : Int) / 8 - 1) = (t.size : Int) / 8 - 1 := by rw [IntKind.wrap_i64]; omega
      have HIN : Hid (∀ w, Calls Try.prog 39 #[.int .i64 x, .int .i64 0, .int .i64 ((t.size : Int) / 8 - 1)] w fun e w' => e = .returned (.bool (decide (0 ≤ x) && decide (x ≤ (t.size : Int) / 8 - 1))) ∧ w = w') := fun w => in_any w x 0 ((t.size : Int) / 8 - 1)
      have HKN : Hid (k < xs.length) := hlt
      clear hi5 hg5 hgl hlt
      by_cases hin : 0 ≤ x ∧ x ≤ (t.size : Int) / 8 - 1
      case neg =>
        have hbf : (decide (0 ≤ x) && decide (x ≤ (t.size : Int) / 8 - 1)) = false := by
          rw [← Bool.decide_and]; exact decide_eq_false hin
        rw [hbf] at HIN
        clear hin hbf
        go_wp2_with fail
        refine (HIN.out _).mono ?_
        rintro e w5 ⟨rfl, rfl⟩
        go_wp2
        go_roundw
        case rel => exact ⟨k + 1, t, by have := HKN.out; omega, by go_num, rfl, HT.out, HO.out, HRr.out, HG.out⟩
        case measure => have := HKN.out; simp [intOf]; omega
      case pos =>
        have hbt : (decide (0 ≤ x) && decide (x ≤ (t.size : Int) / 8 - 1)) = true := by
          rw [← Bool.decide_and]; exact decide_eq_true hin
        rw [hbt] at HIN
        obtain ⟨p, rfl⟩ := Int.eq_ofNat_of_zero_le hin.1
        have h8 : 8 * p + 8 ≤ t.size := by omega
        clear hbt hin
        go_wp2_with fail
        refine (HIN.out _).mono ?_
        rintro e w5 ⟨rfl, rfl⟩
        go_wp2_with fail
        refine (once_any _ R a len cap HRr.out 40 (by omega) (by omega)).mono ?_
        rintro e w6 ⟨b6, rfl, hr6, hb6⟩
        have HR6 : Hid (Rd w6 R a len cap) := hr6
        have HG6 : Hid (w1.grownBy w6 (some R)) := gtrans HG.out hb6
        have HO6 : Hid (w6.ownsRow w1.heap.size 2 1 (.slice (some ⟨g5, 0, none⟩) xs.length cv) xs.length (xs.map (Value.int .i64))) := own_rd HO.out hb6 HRS.out
        have HCK6 : Hid (∀ w', w6.grownBy w' (some R) → w'.cell? ⟨g5, k, none⟩ = some (.int .i64 (p : Int))) := fun w' h => HCK.out w' (gtrans hb6 h)
        clear hr6 hb6 e5 hdv HIN HCK
        cases b6 with
        | true =>
          go_wp2
          go_roundw
          case rel => exact ⟨k + 1, t, by have := HKN.out; omega, by go_num, rfl, HT.out, HO6.out, HR6.out, HG6.out⟩
          case measure => have := HKN.out; simp [intOf]; omega
        | false =>
          obtain ⟨A, hA⟩ : ∃ A : Nat, A = 8 * p := ⟨_, rfl⟩
          have hw8 : IntKind.i64.wrap (8 * (p : Int)) = (A : Int) := by rw [IntKind.wrap_i64]; omega
          have HWB : Hid (∀ (n : Int) (w : World), Calls Try.prog 28 #[.int .i64 n] w fun e w' => ∃ s : ByteArray, e = .returned (.string s) ∧ s.size = 8 ∧ Below w.heap.size w w') := fun n w => (spec_word n w).mono fun _ _ h => ⟨_, h.1, rfl, h.2⟩
          have HLW : Hid (∀ (d : ByteArray) (w : World), d.size = 8 → Calls _ _ _ w _) := fun d w hd => l2With_text w t A d (by omega) (by omega)
          have e5 := HCK6.out w6 (grefl _ _)
          have HAC : Hid (w6.grownBy w6.drew (some R)) := gdrew (grefl _ _)
          have hacc := HAC.out
          have HRD : Hid (Rd w6.drew R a len cap) := HR6.out.drew
          clear hA h8
          go_wp2_with fail
          go_region_held3 (fun w' => w'.cell? ⟨g5, k, none⟩ = some (.int .i64 (p : Int))) (first | with_reducible exact HCK6.out _ hacc)
            (first | (go_at_call 38; refine (below_pos _ R a len cap HRD.out 9 (by omega) (by omega)).mono ?_; rintro e w7 ⟨u7, rfl, hu7, hr7, hb7⟩; have hac2 := gtrans hacc hb7; clear hacc hb7; have hacc := hac2; clear hac2) | (go_at_call 28; refine (HWB.out _ _).mono ?_; rintro e w8 ⟨s8, rfl, hs8, hb8⟩; have hac2 := gbelow hacc hb8; have hr8 := hr7.later hb8; clear hacc hb8 hr7; have hacc := hac2; clear hac2) | (go_at_call 41; refine (HLW.out s8 _ hs8).mono ?_; rintro e w9 ⟨t9, rfl, ht9, hb9⟩; have hac2 := gbelow hacc hb9; have hr9 := hr8.later hb9; clear hacc hb9 hr8; have hacc := hac2; clear hac2))
          all_goals
            have HT9 : Hid (t9.size = N) := by show t9.size = N; rw [ht9]; exact HT.out
            have HR9 : Hid (Rd w9 R a len cap) := hr9
            have HG9 : Hid (w1.grownBy w9 (some R)) := gtrans HG6.out hacc
            have HO9 : Hid (w9.ownsRow w1.heap.size 2 1 (.slice (some ⟨g5, 0, none⟩) xs.length cv) xs.length (xs.map (Value.int .i64))) := own_rd HO6.out hacc HRS.out
            clear hr9 hacc ht9 e5
            go_wp2
            go_roundw
            case rel => exact ⟨k + 1, t9, by have := HKN.out; omega, by go_num, rfl, HT9.out, HO9.out, HR9.out, HG9.out⟩
            case measure => have := HKN.out; simp [intOf]; omega
    · clear HR4 HG4 HO4 HZS
      have HBL : Hid (∀ w', w1.grownBy w' (some R) → Below w.heap.size w w') := fun w' h => below_of HB1.out h (by have := HRE.out; omega) HB1.out.size
      go_wp2_with fail
      refine (once_any _ R a len cap HRr.out 20 (by omega) (by omega)).mono ?_
      rintro e w5 ⟨b5, rfl, hr5, hb5⟩
      have HR5 : Hid (Rd w5 R a len cap) := hr5
      have HG5 : Hid (w1.grownBy w5 (some R)) := gtrans HG.out hb5
      have HO5 : Hid (w5.ownsRow w1.heap.size 2 1 (.slice av xs.length cv) xs.length (xs.map (Value.int .i64))) := own_rd HO.out hb5 HRS.out
      clear hr5 hb5
      cases b5 with
      | false =>
        go_wp2
        go_ret2
        exact ⟨t, _, rfl, by have := HT.out; have := HN.out; omega, xs, HXL.out, own_mono HO5.out HB1.out.size, HBL.out _ HG5.out⟩
      | true =>
        go_wp2_with fail
        refine (hurt_any _ R a len cap HR5.out t (by omega)).mono ?_
        rintro e w6 ⟨t6, rfl, ht6, hr6, hb6⟩
        have HG6 : Hid (w1.grownBy w6 (some R)) := gtrans HG5.out hb6
        have HO6 : Hid (w6.ownsRow w1.heap.size 2 1 (.slice av xs.length cv) xs.length (xs.map (Value.int .i64))) := own_rd HO5.out hb6 HRS.out
        have HT6 : Hid (t6.size ≤ 4096) := by have := HT.out; have := HN.out; show t6.size ≤ 4096; omega
        clear hr6 hb6 ht6
        go_wp2
        go_ret2
        exact ⟨t6, _, rfl, HT6.out, xs, HXL.out, own_mono HO6.out HB1.out.size, HBL.out _ HG6.out⟩
end Go.Proofs.Ytjdlphebnhkghaa.pt
