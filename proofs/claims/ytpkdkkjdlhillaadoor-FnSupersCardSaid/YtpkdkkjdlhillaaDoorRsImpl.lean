/-
  A config read from a superblock's line, by the program; nothing that was there is written.
-/
import Derived.Test.YtpkdkkjdlhillaaDoorRsDef
import Derived.Deep.Cut
import Derived.Deep.CutRange
import Derived.Deep.DeepCutAuto
namespace Go.Proofs.YtpkdkkjdlhillaaDoor.crc
open Go.RowKit
open wmath wb num kinds txt sh

theorem impl_readsup_no (s : ByteArray) (w : World) (hs : s.size ≠ 64) :
    Calls Tryd.prog 10 #[.string s] w fun x w' => x = .returned (.tuple #[.agg #[.int .i64 0, .int .i64 0, .int .i64 0, .slice none 0 0], .bool false]) ∧ Below w.heap.size w w' := by
  have HU : Hid (∀ w, Calls _ _ _ w _) := fun w => impl_unsealed_no s w hs
  obtain ⟨W, hW⟩ : ∃ W, W = w.alloc (.cells #[.int .i64 0, .int .i64 0, .int .i64 0, .slice none 0 0] 26) := ⟨_, rfl⟩
  have HW : Hid (W = w.alloc (.cells #[.int .i64 0, .int .i64 0, .int .i64 0, .slice none 0 0] 26)) := hW
  have HF : Hid (Four w W) := by rw [hW]; exact Four.start w _
  clear hW
  go_enter Tryd.func10, Tryd.ntmps10
  go_wp2_with fail
  rw [← HW.out]
  refine (HU.out _).mono ?_
  rintro x w2 ⟨rfl, hb1⟩
  have hb2 : Below W.heap.size W w2 := by first | exact hb1 | (subst hb1; exact Below.refl _ _)
  have HF2 : Hid (Four w w2) := HF.out.later hb2
  have v0 := HF2.out.cell 0 _ rfl
  have v1 := HF2.out.cell 1 _ rfl
  have v2 := HF2.out.cell 2 _ rfl
  have v3 := HF2.out.cell 3 _ rfl
  have z0 := HF2.out.free 0
  have z1 := HF2.out.free 1
  have z2 := HF2.out.free 2
  have z3 := HF2.out.free 3
  have HC4 : Hid (∀ x0 x1 x2 x3, _) := four_set v0 v1 v2 v3
  clear hb1 hb2
  go_wp2
  refine bodyPost_ret (v := .tuple #[.agg #[.int .i64 0, .int .i64 0, .int .i64 0, .slice none 0 0], .bool false]) ?_ rfl ⟨rfl, HF2.out.put _ _ _ _⟩
  obtain ⟨q0, q1, q2, q3⟩ := HC4.out (.int .i64 0) (.int .i64 0) (.int .i64 0) (.slice none 0 0)
  simp [results, Tryd.results10, go_sem, q0, q1, q2, q3]
theorem num_three (s : ByteArray) (hs : s.size = 3) : num s.data.toList = byteN s 0 * 65536 + byteN s 1 * 256 + byteN s 2 := by
  have h0 : num (s.data.toList.take 1) = 0 * 256 + s[0].toNat := num_take s 0 (by omega)
  have h1 : num (s.data.toList.take 2) = num (s.data.toList.take 1) * 256 + s[1].toNat := num_take s 1 (by omega)
  have h2 : num (s.data.toList.take 3) = num (s.data.toList.take 2) * 256 + s[2].toNat := num_take s 2 (by omega)
  rw [List.take_of_length_le (l := s.data.toList) (by simp; omega)] at h2
  rw [byteN_at s 0 (by omega)] at h0
  rw [byteN_at s 1 (by omega)] at h1
  rw [byteN_at s 2 (by omega)] at h2
  rw [h2, h1, h0]
  generalize byteN s 0 = a
  generalize byteN s 1 = b
  generalize byteN s 2 = c
  omega
theorem byteN_cut (s : ByteArray) (i j p : Nat) (h : i + p < j) (hj : j ≤ s.size) : byteN (s.extract i j) p = byteN s (i + p) := by
  rw [← byteN_at (s.extract i j) p (by rw [ByteArray.size_extract]; omega), ← byteN_at s (i + p) (by omega)]
  congr 1
  simp [ByteArray.getElem_extract]
theorem mask_cut (s : ByteArray) (p : Nat) (h : p + 4 ≤ s.size) : num (s.extract (p + 1) (p + 4)).data.toList = maskS s p := by
  rw [num_three _ (by rw [ByteArray.size_extract]; omega), byteN_cut s _ _ _ (by omega) h, byteN_cut s _ _ _ (by omega) h, byteN_cut s _ _ _ (by omega) h]
  rfl
set_option maxHeartbeats 4000000 in
theorem impl_readsup (s : ByteArray) (w : World) (hs : s.size = 64) (ht : TabAt w) (h0 : 0 < w.heap.size) :
    Calls Tryd.prog 10 #[.string s] w fun x w' => SupAns s w x w' := by
  obtain ⟨W, hW⟩ : ∃ W, W = w.alloc (.cells #[.int .i64 0, .int .i64 0, .int .i64 0, .slice none 0 0] 26) := ⟨_, rfl⟩
  have HW : Hid (W = w.alloc (.cells #[.int .i64 0, .int .i64 0, .int .i64 0, .slice none 0 0] 26)) := hW
  have hF : Four w W := by rw [hW]; exact Four.start w _
  have HF : Hid (Four w W) := hF
  have HT : Hid (∀ w', Below W.heap.size W w' → TabAt w' ∧ 0 < w'.heap.size) := fun w' hb => ⟨(ht.below hF.below h0).below hb (Nat.lt_of_lt_of_le h0 hF.below.size), Nat.lt_of_lt_of_le h0 (Nat.le_trans hF.below.size hb.size)⟩
  have HU : Hid (∀ w, TabAt w → Calls _ _ _ w _) := fun w h => impl_unsealed s w hs h
  have hsl := @supB_sealed s
  clear hW ht hF
  cases hsb : sealedB s with
  | false =>
    have hb : supB s = false := by
      cases h : supB s with
      | false => rfl
      | true => rw [hsl h hs] at hsb; cases hsb
    have HNO : Hid (∀ w', Below w.heap.size w w' → _) := fun w' h => supAns_no hb h
    rw [hsb] at HU
    clear hsl hb
    go_enter Tryd.func10, Tryd.ntmps10
    go_wp2_with fail
    rw [← HW.out]
    refine (HU.out _ (HT.out _ (Below.refl _ _)).1).mono ?_
    rintro x w2 ⟨rfl, hb2⟩
    have HF2 : Hid (Four w w2) := HF.out.later hb2
    have v0 := HF2.out.cell 0 _ rfl
    have v1 := HF2.out.cell 1 _ rfl
    have v2 := HF2.out.cell 2 _ rfl
    have v3 := HF2.out.cell 3 _ rfl
    have z0 := HF2.out.free 0
    have z1 := HF2.out.free 1
    have z2 := HF2.out.free 2
    have z3 := HF2.out.free 3
    have HC4 : Hid (∀ x0 x1 x2 x3, _) := four_set v0 v1 v2 v3
    clear hb2
    go_wp2
    refine bodyPost_ret (v := .tuple #[.agg #[.int .i64 0, .int .i64 0, .int .i64 0, .slice none 0 0], .bool false]) ?_ rfl (HNO.out _ (HF2.out.put _ _ _ _))
    obtain ⟨q0, q1, q2, q3⟩ := HC4.out (.int .i64 0) (.int .i64 0) (.int .i64 0) (.slice none 0 0)
    simp [results, Tryd.results10, go_sem, q0, q1, q2, q3]
  | true =>
    have huo : unsealedOf s = s.extract 0 60 := by unfold unsealedOf; rw [if_pos hsb]
    rw [hsb, huo] at HU
    have hz : (s.extract 0 60).size = 60 := by rw [ByteArray.size_extract]; omega
    have h10 : 10 < (s.extract 0 60).size := by omega
    have hc10 : (((s.extract 0 60)[10]'h10).toNat : Int) = (cntS s : Int) := by
      rw [byteN_at _ 10 h10, byteN_cut s 0 60 10 (by omega) (by omega)]; rfl
    have HCU : Hid (∀ i j, j ≤ 60 → (s.extract 0 60).extract i j = s.extract i j) := fun i j h => by rw [ByteArray.extract_extract]; congr 1 <;> omega
    have HA4 : Hid (∀ w, Calls _ _ _ w _) := fun w => shortAt_any (s.extract 0 60) 4 w (by omega) (by omega)
    have HA6 : Hid (∀ w, Calls _ _ _ w _) := fun w => shortAt_any (s.extract 0 60) 6 w (by omega) (by omega)
    have HA8 : Hid (∀ w, Calls _ _ _ w _) := fun w => shortAt_any (s.extract 0 60) 8 w (by omega) (by omega)
    rw [HCU.out 4 (4 + 2) (by omega)] at HA4
    rw [HCU.out 6 (6 + 2) (by omega)] at HA6
    rw [HCU.out 8 (8 + 2) (by omega)] at HA8
    have HN : Hid (∀ k : Nat, k < 12 → ∀ w, Calls Tryd.prog 40 #[.string ((s.extract 0 60).extract (11 + k * 4 + 1) (11 + k * 4 + 4))] w fun e w' => e = .returned (.int .u64 (maskS s (11 + 4 * k) : Nat)) ∧ w' = w) := fun k hk w => by
      have := numberOf_any ((s.extract 0 60).extract (11 + k * 4 + 1) (11 + k * 4 + 4)) w (by rw [ByteArray.size_extract]; omega)
      rw [HCU.out _ _ (by omega), mask_cut s (11 + k * 4) (by omega), show 11 + k * 4 = 11 + 4 * k by omega] at this
      rw [HCU.out _ _ (by omega), show 11 + k * 4 = 11 + 4 * k by omega]
      exact this
    have HKI : Hid (∀ k w, Calls _ _ _ w _) := fun k w => kindsOf_any (byteN s (11 + 4 * k)) (maskS s (11 + 4 * k)) (by have := byteN_lt s (11 + 4 * k); omega) (maskS_lt _ _) w
    have HKB : Hid (∀ k, k < 12 → ∀ h : 11 + k * 4 < (s.extract 0 60).size, (((s.extract 0 60)[11 + k * 4]'h).toNat : Int) = (byteN s (11 + 4 * k) : Int)) := fun k hk h => by
      rw [byteN_at _ _ h, byteN_cut s 0 60 (11 + k * 4) (by omega) (by omega), show 0 + (11 + k * 4) = 11 + 4 * k by omega]
    have hcb := byteN_lt s 10
    change cntS s < 256 at hcb
    clear huo hsl
    generalize hbo : s.extract 0 60 = body at *
    clear hbo HCU
    by_cases hbig : 12 < cntS s
    · have HNO : Hid (∀ w', Below w.heap.size w w' → _) := fun w' h => supAns_no (super_big hs hbig) h
      have hbi : (12 : Int) < (body[10].toNat : Int) := by rw [hc10]; omega
      clear hc10 hcb
      go_enter Tryd.func10, Tryd.ntmps10
      go_wp2_with fail
      rw [← HW.out]
      refine (HU.out _ (HT.out _ (Below.refl _ _)).1).mono ?_
      rintro x w2 ⟨rfl, hb2⟩
      have HF2 : Hid (Four w w2) := HF.out.later hb2
      have v0 := HF2.out.cell 0 _ rfl
      have v1 := HF2.out.cell 1 _ rfl
      have v2 := HF2.out.cell 2 _ rfl
      have v3 := HF2.out.cell 3 _ rfl
      have z0 := HF2.out.free 0
      have z1 := HF2.out.free 1
      have z2 := HF2.out.free 2
      have z3 := HF2.out.free 3
      have HC4 : Hid (∀ x0 x1 x2 x3, _) := four_set v0 v1 v2 v3
      clear hb2
      go_wp2
      refine bodyPost_ret (v := .tuple #[.agg #[.int .i64 0, .int .i64 0, .int .i64 0, .slice none 0 0], .bool false]) ?_ rfl (HNO.out _ (HF2.out.put _ _ _ _))
      obtain ⟨q0, q1, q2, q3⟩ := HC4.out (.int .i64 0) (.int .i64 0) (.int .i64 0) (.slice none 0 0)
      simp [results, Tryd.results10, go_sem, q0, q1, q2, q3]
    · have hle : cntS s ≤ 12 := by omega
      have HXS : Hid (supXs s = listT s (cntS s)) := by show supXs s = _; unfold supXs; rw [Nat.min_eq_left hle]
      have HSU : Hid (superStr (supN s 4) (supN s 6) (supN s 8) (listI s (cntS s)) = supStr s) := by
        show _ = supStr s
        rw [super_same]; unfold supStr; rw [HXS.out]
      have HLL : Hid (supB s = true → listI s (cntS s) = supL s) := fun h => by
        have hc := supB_conf h hs
        unfold supL
        rw [if_pos h]
        rw [HXS.out] at hc ⊢
        exact (conf_same s _ _ _ _).2 hc
      have hbi : ¬ (12 : Int) < (body[10].toNat : Int) := by rw [hc10]; omega
      have e4 : (num (s.extract 4 (4 + 2)).data.toList : Nat) = supN s 4 := rfl
      have e6 : (num (s.extract 6 (6 + 2)).data.toList : Nat) = supN s 6 := rfl
      have e8 : (num (s.extract 8 (8 + 2)).data.toList : Nat) = supN s 8 := rfl
      rw [e4] at HA4
      rw [e6] at HA6
      rw [e8] at HA8
      have HSB : Hid (((supStr s).toList == s.toList) = supB s) := rfl
      have HNO : Hid (supB s = false → ∀ w', Below w.heap.size w w' → _) := fun hb w' h => supAns_no hb h
      clear e4 e6 e8 hcb
      generalize hn1 : supN s 4 = n1 at HA4 HSU
      have HN1 : Hid (supN s 4 = n1) := hn1
      clear hn1
      generalize hn2 : supN s 6 = n2 at HA6 HSU
      have HN2 : Hid (supN s 6 = n2) := hn2
      clear hn2
      generalize hn3 : supN s 8 = n3 at HA8 HSU
      have HN3 : Hid (supN s 8 = n3) := hn3
      clear hn3
      go_enter Tryd.func10, Tryd.ntmps10
      go_wp2_with fail
      rw [← HW.out]
      refine (HU.out _ (HT.out _ (Below.refl _ _)).1).mono ?_
      rintro x w2 ⟨rfl, hb2⟩
      have HB2 : Hid (Below W.heap.size W w2) := hb2
      clear hb2
      go_wp2_with fail
      refine (HA4.out _).mono ?_
      rintro x w3 ⟨rfl, rfl⟩
      go_wp2_with fail
      refine (HA6.out _).mono ?_
      rintro x w3 ⟨rfl, rfl⟩
      go_wp2_with fail
      refine (HA8.out _).mono ?_
      rintro x w3 ⟨rfl, rfl⟩
      have HC0 : Hid (CBox W _ n1 n2 n3 [] _ _) := CBox.start W w3 n1 n2 n3 26 HB2.out
      obtain ⟨cb, hcbe⟩ : ∃ cb, cb = w3.heap.size := ⟨_, rfl⟩
      have HCB : Hid (cb = w3.heap.size) := hcbe
      rw [← hcbe] at HC0
      clear hcbe
      go_wp2
      rw [← HCB.out]
      generalize w3.alloc _ = wS at HC0
      clear HCB
      go_loopw [32] (fun i wr => ∃ (k : Nat) (v : Value), k ≤ cntS s ∧ i = .int .i64 (k : Int) ∧ CBox W cb n1 n2 n3 (listI s k) v wr) (fun i _ => cntS s - (intOf i).toNat)
      case atStart => exact ⟨0, _, Nat.zero_le _, rfl, HC0.out⟩
      case round =>
        obtain ⟨k, v, hk, rfl, hbox⟩ := hrel
        have HX : Hid (CBox W cb n1 n2 n3 (listI s k) v wr) := hbox
        clear hbox
        by_cases hlt : k < cntS s
        · have hlti : (k : Int) < (cntS s : Int) := by omega
          have c3 := HX.out.c3
          have f3 := HX.out.f3
          have g0 : 0 ≤ 11 + (k : Int) * 4 := by omega
          have g1 : 11 + (k : Int) * 4 < 60 := by omega
          have g2 : 0 ≤ 11 + (k : Int) * 4 + 1 := by omega
          have g3 : 11 + (k : Int) * 4 + 1 ≤ 11 + (k : Int) * 4 + 4 := by omega
          have g4 : 11 + (k : Int) * 4 + 4 ≤ 60 := by omega
          have g5 : (11 + (k : Int) * 4 + 1).toNat = 11 + k * 4 + 1 := by omega
          have g6 : (11 + (k : Int) * 4 + 4).toNat = 11 + k * 4 + 4 := by omega
          have g7 : IntKind.i64.wrap (11 + (k : Int) * 4 + 1) = 11 + (k : Int) * 4 + 1 := by rw [IntKind.wrap_i64]; omega
          have g8 : IntKind.i64.wrap (11 + (k : Int) * 4 + 4) = 11 + (k : Int) * 4 + 4 := by rw [IntKind.wrap_i64]; omega
          have hkb : ∀ h : (11 + (k : Int) * 4).toNat < body.size, ((body[(11 + (k : Int) * 4).toNat]'h).toNat : Int) = (byteN s (11 + 4 * k) : Int) := fun h => by
            have := HKB.out k (by omega) (by omega)
            rw [← this]
            congr 3
          have g9 : IntKind.i64.wrap (byteN s (11 + 4 * k) : Int) = (byteN s (11 + 4 * k) : Int) := by
            have := byteN_lt s (11 + 4 * k)
            rw [IntKind.wrap_i64]; omega
          have HNk : Hid (∀ w, Calls _ _ _ w _) := HN.out k (by omega)
          have HKk : Hid (∀ w, Calls _ _ _ w _) := HKI.out k
          change Hid (∀ w, Calls Tryd.prog 39 #[.int .i64 (byteN s (11 + 4 * k) : Int), .int .u64 (maskS s (11 + 4 * k) : Int)] w fun e w' => e = .returned (.string (kindI s k)) ∧ Below w.heap.size w w') at HKk
          have HSS : Hid (listI s (k + 1) = listI s k ++ [kindI s k]) := listI_succ s k
          have HLK : Hid ((listI s k).length ≤ 1048576) := by show (listI s k).length ≤ _; rw [listI_len]; omega
          generalize kindI s k = ks at HKk HSS
          generalize listI s k = L at HX HSS HLK
          go_wp2_with fail
          go_region_law ((first | (go_simp; go_at_call 40; refine (HNk.out _).mono ?_; rintro e w4 ⟨rfl, rfl⟩) | (go_simp; go_at_call 39; refine (HKk.out _).mono ?_; rintro e w5 ⟨rfl, hb5⟩; have HX5 : Hid (CBox W cb n1 n2 n3 L v w5) := HX.out.later ⟨hb5.os, hb5.tape, hb5.output, hb5.size, hb5.block⟩; have c5 := HX5.out.c3; have c5b := HX5.out.past (.cells #[.string ks] 9); clear hb5) | (refine step_pushT w5 (by rfl) _ _ (by rfl) (cb + 1) v L ks HX5.out.own (by rfl) (by rfl) HLK.out HX5.out.lt ?_; intro g cap w6 hown6 hb6 hB6; have HX6 : Hid (_) := HX5.out.step hown6 hb6; obtain ⟨k6, f6⟩ := HX5.out.kept hb6; clear hown6 hb6 hB6)))
          all_goals
            go_wp2
            go_roundw
            case rel => exact ⟨k + 1, _, by omega, by go_num, by rw [HSS.out]; exact HX6.out⟩
            case measure => simp [intOf]; omega
        · obtain rfl : k = cntS s := by omega
          have c0 := HX.out.c0
          have c1 := HX.out.c1
          have c2 := HX.out.c2
          have c3 := HX.out.c3
          obtain ⟨a, g, cap, rfl, hg, htx⟩ := txts_of_row HX.out.own
          have HSP : Hid (∀ w', Below wr.heap.size wr w' → TabAt w' → 0 < w'.heap.size → Calls _ _ _ w' _) := fun w' hb q1 q2 => impl_super w' n1 n2 n3 a cap (listI s (cntS s)) (by rw [listI_len]; omega) (htx.below hb).strs (fun i hi => by
            rw [show (listI s (cntS s))[i] = kindI s i by simp [listI]]
            unfold kindI
            rw [kindsS_size]
            have := byteN_lt s (11 + 4 * i)
            omega) q1 q2
          rw [HSU.out] at HSP
          generalize supStr s = t at HSP HSB
          have HWR : Hid (Below W.heap.size W wr) := HX.out.below
          cases hsu : supB s with
          | false =>
            have e1 : (t.toList == s.toList) = false := by rw [HSB.out]; exact hsu
            have HNO2 : Hid (∀ w', Below w.heap.size w w' → _) := HNO.out hsu
            clear hsu
            go_wp2_with fail
            refine (HSP.out wr (Below.refl _ _) (HT.out _ HWR.out).1 (HT.out _ HWR.out).2).mono ?_
            rintro x w6 ⟨rfl, hb6⟩
            have HF2 : Hid (Four w w6) := HF.out.later (HWR.out.trans (hb6.mono HWR.out.size))
            have v0 := HF2.out.cell 0 _ rfl
            have v1 := HF2.out.cell 1 _ rfl
            have v2 := HF2.out.cell 2 _ rfl
            have v3 := HF2.out.cell 3 _ rfl
            have z0 := HF2.out.free 0
            have z1 := HF2.out.free 1
            have z2 := HF2.out.free 2
            have z3 := HF2.out.free 3
            have HC4 : Hid (∀ x0 x1 x2 x3, _) := four_set v0 v1 v2 v3
            clear hb6
            go_wp2
            refine bodyPost_ret (v := .tuple #[.agg #[.int .i64 0, .int .i64 0, .int .i64 0, .slice none 0 0], .bool false]) ?_ rfl (HNO2.out _ (HF2.out.put _ _ _ _))
            obtain ⟨q0, q1, q2, q3⟩ := HC4.out (.int .i64 0) (.int .i64 0) (.int .i64 0) (.slice none 0 0)
            simp [results, Tryd.results10, go_sem, q0, q1, q2, q3]
          | true =>
            have e1 : (t.toList == s.toList) = true := by rw [HSB.out]; exact hsu
            have HLL2 : Hid (listI s (cntS s) = supL s) := HLL.out hsu
            have HSU2 : Hid (supB s = true) := hsu
            clear hsu
            go_wp2_with fail
            refine (HSP.out wr (Below.refl _ _) (HT.out _ HWR.out).1 (HT.out _ HWR.out).2).mono ?_
            rintro x w6 ⟨rfl, hb6⟩
            have HF2 : Hid (Four w w6) := HF.out.later (HWR.out.trans (hb6.mono HWR.out.size))
            have HX6 : Hid (CBox _ _ _ _ _ _ _ w6) := HX.out.later hb6
            have v0 := HF2.out.cell 0 _ rfl
            have v1 := HF2.out.cell 1 _ rfl
            have v2 := HF2.out.cell 2 _ rfl
            have v3 := HF2.out.cell 3 _ rfl
            have z0 := HF2.out.free 0
            have z1 := HF2.out.free 1
            have z2 := HF2.out.free 2
            have z3 := HF2.out.free 3
            have y0 := HX6.out.c0
            have y1 := HX6.out.c1
            have y2 := HX6.out.c2
            have y3 := HX6.out.c3
            have HC4 : Hid (∀ x0 x1 x2 x3, _) := four_set v0 v1 v2 v3
            clear hb6 c0 c1 c2 c3
            go_wp2
            refine bodyPost_ret (v := .tuple #[.agg #[.int .i64 n1, .int .i64 n2, .int .i64 n3, .slice a (listI s (cntS s)).length cap], .bool true]) ?_ rfl ?_
            · obtain ⟨q0, q1, q2, q3⟩ := HC4.out (.int .i64 n1) (.int .i64 n2) (.int .i64 n3) (.slice a (listI s (cntS s)).length cap)
              simp [results, Tryd.results10, go_sem, q0, q1, q2, q3]
            · refine ⟨.slice a (listI s (cntS s)).length cap, ?_, ?_, HF2.out.put _ _ _ _⟩
              · unfold conV; rw [HSU2.out, HN1.out, HN2.out, HN3.out]; rfl
              · rw [← HLL2.out]
                have hlt : w.heap.size < cb + 1 := by have := HF.out.lt; have := HX6.out.at0; omega
                exact row_mono (row_far (row_far (row_far (row_far HX6.out.own hlt) hlt) hlt) hlt) (by omega)
end Go.Proofs.YtpkdkkjdlhillaaDoor.crc
