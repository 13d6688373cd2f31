/-
  A config read from a superblock's line, by the specification; nothing that was there is written.
-/
import Derived.Test.YtpkdkkjdlhillaaDoorRsDef
import Derived.Test.YtpkdkkjdlhillaaDoorSuper2
import Derived.BigQuiet
import Derived.Deep.QuietTactic
namespace Go.Proofs.YtpkdkkjdlhillaaDoor.crc
open Go.RowKit
open wmath wb num kinds txt sh

theorem spec_readsup_no (s : ByteArray) (w : World) (hs : s.size ≠ 64) (_hm : s.size ≤ 1048576) :
    Calls Tryd.prog 11 #[.string s] w fun x w' => x = .returned (.tuple #[.agg #[.int .i64 0, .int .i64 0, .int .i64 0, .slice none 0 0], .bool false]) ∧ Below w.heap.size w w' := by
  have h2 : ((s.size : Int) != 64) = true := by simp; omega
  go_enter Tryd.func11, Tryd.ntmps11
  go_wp2
  refine bodyPost_ret (v := .tuple #[.agg #[.int .i64 0, .int .i64 0, .int .i64 0, .slice none 0 0], .bool false]) (by simp [results, Tryd.results11, go_sem]) rfl ⟨rfl, by go_grown⟩
theorem or_shift (a b c : Nat) (hb : b < 256) (hc : c < 256) : (a * 65536 ||| b * 256) ||| c = a * 65536 + b * 256 + c := by
  have h1 : a * 65536 ||| b * 256 = a * 65536 + b * 256 := by
    have := Nat.two_pow_add_eq_or_of_lt (i := 16) (b := b * 256) (by omega) a
    rw [Nat.mul_comm] at this
    exact this.symm
  rw [h1]
  have := Nat.two_pow_add_eq_or_of_lt (i := 8) (b := c) (by omega) (a * 256 + b)
  rw [show 2 ^ 8 * (a * 256 + b) = a * 65536 + b * 256 by omega] at this
  exact this.symm
set_option maxHeartbeats 4000000 in
set_option maxRecDepth 20000 in
theorem spec_readsup (s : ByteArray) (w : World) (hs : s.size = 64) :
    Calls Tryd.prog 11 #[.string s] w fun x w' => SupAns s w x w' := by
  obtain ⟨W, hW⟩ : ∃ W, W = w.alloc (.cells #[.int .i64 0, .int .i64 0, .int .i64 0, .slice none 0 0] 26) := ⟨_, rfl⟩
  have HW : Hid (W = w.alloc (.cells #[.int .i64 0, .int .i64 0, .int .i64 0, .slice none 0 0] 26)) := hW
  have hF : Four w W := by rw [hW]; exact Four.start w _
  have HF : Hid (Four w W) := hF
  obtain ⟨V, hV⟩ : ∃ V, V = W.alloc (.cells #[.int .i64 0, .int .i64 0, .int .i64 0, .slice none 0 0] 26) := ⟨_, rfl⟩
  have HV : Hid (V = W.alloc (.cells #[.int .i64 0, .int .i64 0, .int .i64 0, .slice none 0 0] 26)) := hV
  have hC0 : CBox W W.heap.size 0 0 0 [] (.slice none 0 0) V := by rw [hV]; exact CBox.start W W 0 0 0 _ (Below.refl _ _)
  obtain ⟨cb, hcb⟩ : ∃ cb, cb = W.heap.size := ⟨_, rfl⟩
  have HCB : Hid (w.heap.size + 1 = cb) := by show _ = cb; rw [hcb, hW]; simp
  rw [← hcb] at hC0
  have HC0 : Hid (CBox W cb 0 0 0 [] (.slice none 0 0) V) := hC0
  have h2 : ((s.size : Int) != 64) = false := by simp; omega
  have hz4 : (s.extract 4 6).size = 2 := by simp; omega
  have hz6 : (s.extract 6 8).size = 2 := by simp; omega
  have hz8 : (s.extract 8 10).size = 2 := by simp; omega
  have HA4 : Hid (∀ w, Calls _ _ _ w _) := fun w => spec_two (s.extract 4 6) w hz4
  have HA6 : Hid (∀ w, Calls _ _ _ w _) := fun w => spec_two (s.extract 6 8) w hz6
  have HA8 : Hid (∀ w, Calls _ _ _ w _) := fun w => spec_two (s.extract 8 10) w hz8
  have e4 : (num (s.extract 4 6).data.toList : Nat) = supN s 4 := rfl
  have e6 : (num (s.extract 6 8).data.toList : Nat) = supN s 6 := rfl
  have e8 : (num (s.extract 8 10).data.toList : Nat) = supN s 8 := rfl
  rw [e4] at HA4
  rw [e6] at HA6
  rw [e8] at HA8
  have b4 : (4 : Int) ≤ (s.size : Int) := by omega
  have b6 : (6 : Int) ≤ (s.size : Int) := by omega
  have b8 : (8 : Int) ≤ (s.size : Int) := by omega
  have b10 : (10 : Int) ≤ (s.size : Int) := by omega
  have h10 : 10 < s.size := by omega
  have hc10 : ((s[10]'h10).toNat : Int) = (cntS s : Int) := by rw [byteN_at _ 10 h10]; rfl
  have HBY : Hid (∀ p : Nat, ∀ h : p < s.size, ((s[p]'h).toNat : Int) = (byteN s p : Int)) := fun p h => by rw [byteN_at _ _ h]
  have hcl := byteN_lt s 10
  change cntS s < 256 at hcl
  have HSU : Hid (superStr (supN s 4) (supN s 6) (supN s 8) (supXs s) = supStr s) := rfl
  have HSB : Hid (((supStr s).toList == s.toList) = supB s) := rfl
  have HNO : Hid (supB s = false → ∀ w', Below w.heap.size w w' → _) := fun hb w' h => supAns_no hb h
  have HXS : Hid (supXs s = listT s (min (cntS s) 12)) := rfl
  have HLL : Hid (supB s = true → supXs s = supL s) := fun h => by unfold supL; rw [if_pos h]
  clear hW hF hC0 e4 e6 e8 hV hcb
  generalize hn1 : supN s 4 = n1 at HA4 HSU
  have HN1 : Hid (supN s 4 = n1) := hn1
  clear hn1
  generalize hn2 : supN s 6 = n2 at HA6 HSU
  have HN2 : Hid (supN s 6 = n2) := hn2
  clear hn2
  generalize hn3 : supN s 8 = n3 at HA8 HSU
  have HN3 : Hid (supN s 8 = n3) := hn3
  clear hn3
  go_enter Tryd.func11, Tryd.ntmps11
  go_wp2_with fail
  rw [← HW.out, ← HV.out, HCB.out]
  refine (HA4.out _).mono ?_
  rintro x w3 ⟨rfl, m1, rfl⟩
  have hC1 : CBox W cb n1 0 0 [] _ _ := (HC0.out.draws m1).set0 n1
  have p0 := (HC0.out.draws m1).c0
  have p1 := (HC0.out.draws m1).fr 0
  go_wp2_with fail
  clear p0 p1
  generalize (V.drewN m1).setCell ⟨cb, 0, none⟩ (.int .i64 n1) = wA at hC1 ⊢
  have HC1 : Hid (CBox W cb n1 0 0 [] _ wA) := hC1
  clear hC1
  refine (HA6.out _).mono ?_
  rintro x w3 ⟨rfl, m2, rfl⟩
  have hC2 : CBox W cb n1 n2 0 [] _ _ := (HC1.out.draws m2).set1 n2
  have p0 := (HC1.out.draws m2).c1
  have p1 := (HC1.out.draws m2).fr 1
  go_wp2_with fail
  clear p0 p1
  generalize (wA.drewN m2).setCell ⟨cb, 1, none⟩ (.int .i64 n2) = wB at hC2 ⊢
  have HC2 : Hid (CBox W cb n1 n2 0 [] _ wB) := hC2
  clear hC2
  refine (HA8.out _).mono ?_
  rintro x w3 ⟨rfl, m3, rfl⟩
  have hC3 : CBox W cb n1 n2 n3 [] _ _ := (HC2.out.draws m3).set2 n3
  have p0 := (HC2.out.draws m3).c2
  have p1 := (HC2.out.draws m3).fr 2
  go_wp2
  clear p0 p1
  generalize (wB.drewN m3).setCell ⟨cb, 2, none⟩ (.int .i64 n3) = wC at hC3 ⊢
  have HC3 : Hid (CBox W cb n1 n2 n3 [] _ wC) := hC3
  clear hC3
  go_loopw [5] (fun i wr => ∃ (k : Nat) (v : Value), k ≤ min (cntS s) 12 ∧ i = .int .i64 (k : Int) ∧ CBox W cb n1 n2 n3 (listT s k) v wr) (fun i _ => min (cntS s) 12 - (intOf i).toNat)
  case atStart => exact ⟨0, _, Nat.zero_le _, rfl, HC3.out⟩
  case round =>
    obtain ⟨k, v, hk, rfl, hbox⟩ := hrel
    have HX : Hid (CBox W cb n1 n2 n3 (listT s k) v wr) := hbox
    clear hbox
    have hk12 : k ≤ 12 := by omega
    have hkc : k ≤ cntS s := by omega
    have HMIN : Hid (k ≤ min (cntS s) 12) := hk
    clear hk
    by_cases hlt : k < cntS s
    · by_cases hlt12 : k < 12
      · have hlti : (k : Int) < (cntS s : Int) := by omega
        have hlti12 : (k : Int) < 12 := by omega
        have g0 : 0 ≤ 11 + 4 * (k : Int) := by omega
        have g1 : 11 + 4 * (k : Int) < (s.size : Int) := by omega
        have g2 : 0 ≤ 11 + 4 * (k : Int) + 1 := by omega
        have g3 : 11 + 4 * (k : Int) + 1 < (s.size : Int) := by omega
        have g4 : 0 ≤ 11 + 4 * (k : Int) + 2 := by omega
        have g5 : 11 + 4 * (k : Int) + 2 < (s.size : Int) := by omega
        have g6 : 0 ≤ 11 + 4 * (k : Int) + 3 := by omega
        have g7 : 11 + 4 * (k : Int) + 3 < (s.size : Int) := by omega
        have k0 : ∀ h : (11 + 4 * (k : Int)).toNat < s.size, ((s[(11 + 4 * (k : Int)).toNat]'h).toNat : Int) = (byteN s (11 + 4 * k) : Int) := fun h => by
          have := HBY.out (11 + 4 * k) (by omega)
          rw [← this]
          congr 3
        have k1 : ∀ h : (11 + 4 * (k : Int) + 1).toNat < s.size, ((s[(11 + 4 * (k : Int) + 1).toNat]'h).toNat : Int) = (byteN s (11 + 4 * k + 1) : Int) := fun h => by
          have := HBY.out (11 + 4 * k + 1) (by omega)
          rw [← this]
          congr 3
        have k2 : ∀ h : (11 + 4 * (k : Int) + 2).toNat < s.size, ((s[(11 + 4 * (k : Int) + 2).toNat]'h).toNat : Int) = (byteN s (11 + 4 * k + 2) : Int) := fun h => by
          have := HBY.out (11 + 4 * k + 2) (by omega)
          rw [← this]
          congr 3
        have k3 : ∀ h : (11 + 4 * (k : Int) + 3).toNat < s.size, ((s[(11 + 4 * (k : Int) + 3).toNat]'h).toNat : Int) = (byteN s (11 + 4 * k + 3) : Int) := fun h => by
          have := HBY.out (11 + 4 * k + 3) (by omega)
          rw [← this]
          congr 3
        have l0 := byteN_lt s (11 + 4 * k)
        have l1 := byteN_lt s (11 + 4 * k + 1)
        have l2 := byteN_lt s (11 + 4 * k + 2)
        have l3 := byteN_lt s (11 + 4 * k + 3)
        have HMS : Hid (maskS s (11 + 4 * k) = byteN s (11 + 4 * k + 1) * 65536 + byteN s (11 + 4 * k + 2) * 256 + byteN s (11 + 4 * k + 3)) := rfl
        have HKT : Hid (listT s (k + 1) = listT s k ++ [kindsS (min (byteN s (11 + 4 * k)) 24) (maskS s (11 + 4 * k))]) := listT_succ s k
        generalize byteN s (11 + 4 * k) = x0 at k0 l0 HKT
        generalize byteN s (11 + 4 * k + 1) = x1 at k1 l1 HMS
        generalize byteN s (11 + 4 * k + 2) = x2 at k2 l2 HMS
        generalize byteN s (11 + 4 * k + 3) = x3 at k3 l3 HMS
        have hmk := maskS_lt s (11 + 4 * k)
        generalize maskS s (11 + 4 * k) = mk at HKT HMS hmk
        have hmask : bits BinOp.or IntKind.i64 (bits BinOp.or IntKind.i64 ((x1 : Int) * 65536) ((x2 : Int) * 256)) (x3 : Int) = (mk : Int) := by
          have q1 : ((x1 : Int) * 65536) = ((x1 * 65536 : Nat) : Int) := by omega
          have q2 : ((x2 : Int) * 256) = ((x2 * 256 : Nat) : Int) := by omega
          have q3 : x1 * 65536 ||| x2 * 256 = x1 * 65536 + x2 * 256 := by
            have := Nat.two_pow_add_eq_or_of_lt (i := 16) (b := x2 * 256) (by omega) x1
            rw [Nat.mul_comm] at this
            exact this.symm
          rw [q1, q2, or_i64 _ _ (by omega) (by omega), or_i64 _ _ (by rw [q3]; omega) (by omega), or_shift _ _ _ l2 l3, HMS.out]
        go_wp2
        go_quiet (fail)
        go_wp2
        clear hmask k1 k2 k3 g2 g3 g4 g5 g6 g7 HMS
        have hXd : CBox W cb n1 n2 n3 (listT s k) v (wr.drewN nq) := HX.out.draws nq
        generalize wr.drewN nq = wd at hXd ⊢
        have HXd : Hid (CBox W cb n1 n2 n3 (listT s k) v wd) := hXd
        clear hXd
        go_loopw [8, 9] (fun t i wr2 => ∃ j : Nat, j ≤ min x0 24 ∧ i = .int .i64 (j : Int) ∧ t = .string (kindsS j mk) ∧ wd = wr2) (fun _ i _ => min x0 24 - (intOf i).toNat)
        case atStart => exact ⟨0, Nat.zero_le _, rfl, rfl, rfl⟩
        case round =>
          obtain ⟨j, hj, rfl, rfl, rfl⟩ := hrel
          have hj0 : j ≤ x0 := by omega
          have hj24 : j ≤ 24 := by omega
          clear hj
          by_cases hj1 : j < x0
          · by_cases hj2 : j < 24
            · have hj1i : (j : Int) < (x0 : Int) := by omega
              have hj2i : (j : Int) < 24 := by omega
              have hmn : j < min x0 24 := by omega
              have HMN : Hid (j < min x0 24) := hmn
              have hA := and_one_i64 mk j hmk
              have hzz : (kindsS j mk).size = j := kindsS_size j mk
              by_cases hbit : mk / 2 ^ j % 2 = 1
              · have he : (bits BinOp.and IntKind.i64 ((mk : Int) / 2 ^ j) 1 == 1) = true := by rw [hA, hbit]; rfl
                have HKS : Hid (kindsS (j + 1) mk = kindsS j mk ++ ⟨#[114]⟩) := by
                  show kindsS (j + 1) mk = _
                  apply bytes_of
                  unfold kindsS
                  rw [kindsL_succ, kindB, if_pos hbit]
                  simp
                clear hbit hA hmn
                generalize kindsS j mk = ks at HKS hzz ⊢
                go_wp2
                go_roundw
                case rel => exact ⟨j + 1, by have := HMN.out; omega, by go_num, by rw [HKS.out], trivial⟩
                case measure => simp [intOf]; have := HMN.out; omega
              · have he : (bits BinOp.and IntKind.i64 ((mk : Int) / 2 ^ j) 1 == 1) = false := by rw [hA, show mk / 2 ^ j % 2 = 0 by omega]; rfl
                have HKS : Hid (kindsS (j + 1) mk = kindsS j mk ++ ⟨#[105]⟩) := by
                  show kindsS (j + 1) mk = _
                  apply bytes_of
                  unfold kindsS
                  rw [kindsL_succ, kindB, if_neg hbit]
                  simp
                clear hbit hA hmn
                generalize kindsS j mk = ks at HKS hzz ⊢
                go_wp2
                go_roundw
                case rel => exact ⟨j + 1, by have := HMN.out; omega, by go_num, by rw [HKS.out], trivial⟩
                case measure => simp [intOf]; have := HMN.out; omega
            · have hjm : j = min x0 24 := by omega
              have HEL : Hid (listT s (k + 1) = listT s k ++ [kindsS j mk]) := by
                show listT s (k + 1) = _
                rw [hjm]; exact HKT.out
              have HLK : Hid ((listT s k).length ≤ 1048576) := by show (listT s k).length ≤ _; rw [listT_len]; omega
              have HK1 : Hid (k + 1 ≤ min (cntS s) 12) := by show k + 1 ≤ _; omega
              have c3 := HXd.out.c3
              have f3 := HXd.out.f3
              clear hjm HKT HX hmk l1 l2 l3 hkc hk12
              generalize kindsS j mk = ks at HEL ⊢
              generalize listT s k = L at HEL HXd HLK
              have hj1i : (j : Int) < (x0 : Int) := by omega
              have hj2i : ¬ (j : Int) < 24 := by omega
              go_wp2_with (refine wpList_pushT wd (by rfl) _ _ (by rfl) (cb + 1) v L ks HXd.out.own (by rfl) (by rfl) HLK.out HXd.out.lt ?_; intro g cap w6 hown6 hb6 hB6; have HX6 : Hid (_) := HXd.out.step hown6 hb6; obtain ⟨k6, f6⟩ := HXd.out.kept hb6; clear hown6 hb6 hB6)
              go_roundw
              case rel => exact ⟨k + 1, _, HK1.out, by go_num, by rw [HEL.out]; exact HX6.out⟩
              case measure => simp [intOf]; have := HK1.out; omega
          · have hjm : j = min x0 24 := by omega
            have HEL : Hid (listT s (k + 1) = listT s k ++ [kindsS j mk]) := by
              show listT s (k + 1) = _
              rw [hjm]; exact HKT.out
            have HLK : Hid ((listT s k).length ≤ 1048576) := by show (listT s k).length ≤ _; rw [listT_len]; omega
            have HK1 : Hid (k + 1 ≤ min (cntS s) 12) := by show k + 1 ≤ _; omega
            have c3 := HXd.out.c3
            have f3 := HXd.out.f3
            clear hjm HKT HX hmk l1 l2 l3 hkc hk12
            generalize kindsS j mk = ks at HEL ⊢
            generalize listT s k = L at HEL HXd HLK
            have hj1i : ¬ (j : Int) < (x0 : Int) := by omega
            go_wp2_with (refine wpList_pushT wd (by rfl) _ _ (by rfl) (cb + 1) v L ks HXd.out.own (by rfl) (by rfl) HLK.out HXd.out.lt ?_; intro g cap w6 hown6 hb6 hB6; have HX6 : Hid (_) := HXd.out.step hown6 hb6; obtain ⟨k6, f6⟩ := HXd.out.kept hb6; clear hown6 hb6 hB6)
            go_roundw
            case rel => exact ⟨k + 1, _, HK1.out, by go_num, by rw [HEL.out]; exact HX6.out⟩
            case measure => simp [intOf]; have := HK1.out; omega
      · have hkm : k = min (cntS s) 12 := by omega
        rw [hkm, ← HXS.out] at HX
        have hlti : (k : Int) < (cntS s : Int) := by omega
        have hlti12 : ¬ (k : Int) < 12 := by omega
        have c0 := HX.out.c0
        have c1 := HX.out.c1
        have c2 := HX.out.c2
        have c3 := HX.out.c3
        obtain ⟨a, g, cap, rfl, hg, htx⟩ := txts_of_row HX.out.own
        have HSP : Hid (∀ w', Below wr.heap.size wr w' → Calls _ _ _ w' _) := fun w' hb => spec_super w' n1 n2 n3 a cap (supXs s) (by rw [HXS.out, listT_len]; omega) (htx.below hb).strs (fun i hi => by
          have e : (supXs s)[i] = kindT s i := by simp [supXs, listT]
          rw [e]
          unfold kindT
          rw [kindsS_size]
          omega)
        rw [HSU.out] at HSP
        generalize supStr s = t at HSP HSB
        have HWR : Hid (Below W.heap.size W wr) := HX.out.below
        cases hsu : supB s with
        | false =>
          have e1 : (t.toList == s.toList) = false := by rw [HSB.out]; exact hsu
          have HNO2 : Hid (∀ w', Below w.heap.size w w' → _) := HNO.out hsu
          clear hsu hkm
          go_wp2_with fail
          refine (HSP.out wr (Below.refl _ _)).mono ?_
          rintro x w6 ⟨rfl, hb6⟩
          have HF2 : Hid (Four w w6) := HF.out.later (HWR.out.trans (hb6.mono HWR.out.size))
          have v0 := HF2.out.cell 0 _ rfl
          have v1 := HF2.out.cell 1 _ rfl
          have v2 := HF2.out.cell 2 _ rfl
          have v3 := HF2.out.cell 3 _ rfl
          have z0 := HF2.out.free 0
          have z1 := HF2.out.free 1
          have z2 := HF2.out.free 2
          have z3 := HF2.out.free 3
          have HC4 : Hid (∀ x0 x1 x2 x3, _) := four_set v0 v1 v2 v3
          clear hb6
          go_wp2
          refine bodyPost_ret (v := .tuple #[.agg #[.int .i64 0, .int .i64 0, .int .i64 0, .slice none 0 0], .bool false]) ?_ rfl (HNO2.out _ (HF2.out.put _ _ _ _))
          obtain ⟨q0, q1, q2, q3⟩ := HC4.out (.int .i64 0) (.int .i64 0) (.int .i64 0) (.slice none 0 0)
          simp [results, Tryd.results11, go_sem, q0, q1, q2, q3]
        | true =>
          have e1 : (t.toList == s.toList) = true := by rw [HSB.out]; exact hsu
          have HLL2 : Hid (supXs s = supL s) := HLL.out hsu
          have HSU2 : Hid (supB s = true) := hsu
          clear hsu hkm
          go_wp2_with fail
          refine (HSP.out wr (Below.refl _ _)).mono ?_
          rintro x w6 ⟨rfl, hb6⟩
          have HF2 : Hid (Four w w6) := HF.out.later (HWR.out.trans (hb6.mono HWR.out.size))
          have HX6 : Hid (CBox _ _ _ _ _ _ _ w6) := HX.out.later hb6
          have v0 := HF2.out.cell 0 _ rfl
          have v1 := HF2.out.cell 1 _ rfl
          have v2 := HF2.out.cell 2 _ rfl
          have v3 := HF2.out.cell 3 _ rfl
          have z0 := HF2.out.free 0
          have z1 := HF2.out.free 1
          have z2 := HF2.out.free 2
          have z3 := HF2.out.free 3
          have y0 := HX6.out.c0
          have y1 := HX6.out.c1
          have y2 := HX6.out.c2
          have y3 := HX6.out.c3
          have HC4 : Hid (∀ x0 x1 x2 x3, _) := four_set v0 v1 v2 v3
          clear hb6 c0 c1 c2 c3
          go_wp2
          refine bodyPost_ret (v := .tuple #[.agg #[.int .i64 n1, .int .i64 n2, .int .i64 n3, .slice a (supXs s).length cap], .bool true]) ?_ rfl ?_
          · obtain ⟨q0, q1, q2, q3⟩ := HC4.out (.int .i64 n1) (.int .i64 n2) (.int .i64 n3) (.slice a (supXs s).length cap)
            simp [results, Tryd.results11, go_sem, q0, q1, q2, q3]
          · refine ⟨.slice a (supXs s).length cap, ?_, ?_, HF2.out.put _ _ _ _⟩
            · unfold conV; rw [HSU2.out, HN1.out, HN2.out, HN3.out]; rfl
            · rw [← HLL2.out]
              have hlt : w.heap.size < cb + 1 := by have := HF.out.lt; have := HX6.out.at0; omega
              exact row_mono (row_far (row_far (row_far (row_far HX6.out.own hlt) hlt) hlt) hlt) (by omega)
    · have hkm : k = min (cntS s) 12 := by omega
      rw [hkm, ← HXS.out] at HX
      have hlti : ¬ (k : Int) < (cntS s : Int) := by omega
      have c0 := HX.out.c0
      have c1 := HX.out.c1
      have c2 := HX.out.c2
      have c3 := HX.out.c3
      obtain ⟨a, g, cap, rfl, hg, htx⟩ := txts_of_row HX.out.own
      have HSP : Hid (∀ w', Below wr.heap.size wr w' → Calls _ _ _ w' _) := fun w' hb => spec_super w' n1 n2 n3 a cap (supXs s) (by rw [HXS.out, listT_len]; omega) (htx.below hb).strs (fun i hi => by
        have e : (supXs s)[i] = kindT s i := by simp [supXs, listT]
        rw [e]
        unfold kindT
        rw [kindsS_size]
        omega)
      rw [HSU.out] at HSP
      generalize supStr s = t at HSP HSB
      have HWR : Hid (Below W.heap.size W wr) := HX.out.below
      cases hsu : supB s with
      | false =>
        have e1 : (t.toList == s.toList) = false := by rw [HSB.out]; exact hsu
        have HNO2 : Hid (∀ w', Below w.heap.size w w' → _) := HNO.out hsu
        clear hsu hkm
        go_wp2_with fail
        refine (HSP.out wr (Below.refl _ _)).mono ?_
        rintro x w6 ⟨rfl, hb6⟩
        have HF2 : Hid (Four w w6) := HF.out.later (HWR.out.trans (hb6.mono HWR.out.size))
        have v0 := HF2.out.cell 0 _ rfl
        have v1 := HF2.out.cell 1 _ rfl
        have v2 := HF2.out.cell 2 _ rfl
        have v3 := HF2.out.cell 3 _ rfl
        have z0 := HF2.out.free 0
        have z1 := HF2.out.free 1
        have z2 := HF2.out.free 2
        have z3 := HF2.out.free 3
        have HC4 : Hid (∀ x0 x1 x2 x3, _) := four_set v0 v1 v2 v3
        clear hb6
        go_wp2
        refine bodyPost_ret (v := .tuple #[.agg #[.int .i64 0, .int .i64 0, .int .i64 0, .slice none 0 0], .bool false]) ?_ rfl (HNO2.out _ (HF2.out.put _ _ _ _))
        obtain ⟨q0, q1, q2, q3⟩ := HC4.out (.int .i64 0) (.int .i64 0) (.int .i64 0) (.slice none 0 0)
        simp [results, Tryd.results11, go_sem, q0, q1, q2, q3]
      | true =>
        have e1 : (t.toList == s.toList) = true := by rw [HSB.out]; exact hsu
        have HLL2 : Hid (supXs s = supL s) := HLL.out hsu
        have HSU2 : Hid (supB s = true) := hsu
        clear hsu hkm
        go_wp2_with fail
        refine (HSP.out wr (Below.refl _ _)).mono ?_
        rintro x w6 ⟨rfl, hb6⟩
        have HF2 : Hid (Four w w6) := HF.out.later (HWR.out.trans (hb6.mono HWR.out.size))
        have HX6 : Hid (CBox _ _ _ _ _ _ _ w6) := HX.out.later hb6
        have v0 := HF2.out.cell 0 _ rfl
        have v1 := HF2.out.cell 1 _ rfl
        have v2 := HF2.out.cell 2 _ rfl
        have v3 := HF2.out.cell 3 _ rfl
        have z0 := HF2.out.free 0
        have z1 := HF2.out.free 1
        have z2 := HF2.out.free 2
        have z3 := HF2.out.free 3
        have y0 := HX6.out.c0
        have y1 := HX6.out.c1
        have y2 := HX6.out.c2
        have y3 := HX6.out.c3
        have HC4 : Hid (∀ x0 x1 x2 x3, _) := four_set v0 v1 v2 v3
        clear hb6 c0 c1 c2 c3
        go_wp2
        refine bodyPost_ret (v := .tuple #[.agg #[.int .i64 n1, .int .i64 n2, .int .i64 n3, .slice a (supXs s).length cap], .bool true]) ?_ rfl ?_
        · obtain ⟨q0, q1, q2, q3⟩ := HC4.out (.int .i64 n1) (.int .i64 n2) (.int .i64 n3) (.slice a (supXs s).length cap)
          simp [results, Tryd.results11, go_sem, q0, q1, q2, q3]
        · refine ⟨.slice a (supXs s).length cap, ?_, ?_, HF2.out.put _ _ _ _⟩
          · unfold conV; rw [HSU2.out, HN1.out, HN2.out, HN3.out]; rfl
          · rw [← HLL2.out]
            have hlt : w.heap.size < cb + 1 := by have := HF.out.lt; have := HX6.out.at0; omega
            exact row_mono (row_far (row_far (row_far (row_far HX6.out.own hlt) hlt) hlt) hlt) (by omega)
end Go.Proofs.YtpkdkkjdlhillaaDoor.crc
