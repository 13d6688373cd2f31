/-
  Planned, by the program.
-/
import Derived.Test.YtomlogkbndmaaaaPlanMath
import Derived.Test.YtomlogkbndmaaaaOlds1
namespace Go.Proofs.Ytomlogkbndmaaaa.pl
open Go.RowKit lb kinds obj img later

set_option maxHeartbeats 1000000 in
theorem allPlaces_any (w : World) (b : Option Addr) (cb : Nat) (ts : List Int) (n : Nat) (_hn : n ≤ 1048576) (ht : ts.length ≤ 1048576) (hk : ints.Nums w b ts) :
    Calls Try.prog 39 #[.slice b ts.length cb, .int .i64 (n : Int)] w fun e w' => e = .returned (.bool (allIn n ts ts.length)) ∧ w = w' := by
  have HN : Hid (ints.Nums w b ts) := hk
  obtain ⟨res, hres⟩ : ∃ r, r = allIn n ts ts.length := ⟨_, rfl⟩
  rw [← hres]
  have HMS : Hid (res = allIn n ts ts.length) := hres
  have HPL : Hid (∀ (r : Int) (w : World), Calls _ _ _ w _) := fun r w => isPlace_any w r n
  clear hk hres
  go_enter Try.func39, Try.ntmps39
  go_wp2
  go_loopw [9] (fun i wr => ∃ k : Nat, k ≤ ts.length ∧ i = .int .i64 (k : Int) ∧ allIn n ts k = true ∧ w = wr) (fun i _ => ts.length - (intOf i).toNat)
  case atStart => exact ⟨0, Nat.zero_le _, rfl, rfl, rfl⟩
  case round =>
    obtain ⟨k, hk, rfl, hok, rfl⟩ := hrel
    have HOK : Hid (allIn n ts k = true) := hok
    clear hok
    by_cases hlt : k < ts.length
    · have hlti : (k : Int) < (ts.length : Int) := by omega
      obtain ⟨b2, off, rfl, c0⟩ := HN.out k hlt
      rw [getD_intI2 ts k hlt] at c0
      have HST : Hid (allIn n ts (k + 1) = placeB n (ts.getD k 0)) := by
        show allIn n ts (k + 1) = _
        rw [allIn, HOK.out]; rfl
      have HLE : Hid (allIn n ts (k + 1) = false → allIn n ts ts.length = false) := allIn_le n ts (k + 1) ts.length (by omega)
      generalize ts.getD k 0 = r at c0 HST
      have HP2 : Hid (∀ (w : World), Calls _ _ _ w _) := fun w => HPL.out r w
      cases hpl : placeB n r with
      | false =>
        rw [hpl] at HP2 HST
        have HNO : Hid (res = false) := by show res = false; rw [HMS.out, HLE.out HST.out]
        clear hpl
        go_wp2_with fail
        refine (HP2.out _).mono ?_
        rintro e w1 ⟨rfl, rfl⟩
        go_wp2
        go_ret
        exact ⟨by rw [HNO.out]; rfl, rfl⟩
      | true =>
        rw [hpl] at HP2 HST
        clear hpl
        go_wp2_with fail
        refine (HP2.out _).mono ?_
        rintro e w1 ⟨rfl, rfl⟩
        go_wp2
        go_roundw
        case rel => exact ⟨k + 1, by omega, by go_num, HST.out, trivial⟩
        case measure => simp [intOf]; omega
    · obtain rfl : k = ts.length := by omega
      have HRES : Hid (res = true) := by show res = true; rw [HMS.out, HOK.out]
      go_wp2
      go_ret
      exact ⟨by rw [HRES.out]; rfl, rfl⟩
set_option maxHeartbeats 2000000 in
set_option maxRecDepth 20000 in
theorem impl_plan (w : World) (n1 n2 n3 : Int) (a : Option Addr) (cap : Nat) (xs : List ByteArray) (m : ByteArray) (b : Option Addr) (cb : Nat) (ts : List Int) (hn : xs.length ≤ 1048576) (hl : Strs w a xs) (hz : ∀ i (hi : i < xs.length), xs[i].size ≤ 1048576) (ht : ts.length ≤ 1048576) (hk : ints.Nums w b ts) :
    Calls Try.prog 9 #[.agg #[.int .i64 n1, .int .i64 n2, .int .i64 n3, .slice a xs.length cap], .string m, .slice b ts.length cb] w fun e w' => PlAns n1 n2 n3 xs m ts w e w' ∧ Below w.heap.size w w' := by
  obtain ⟨W, hW⟩ : ∃ W, W = w.alloc (.cells #[.int .i64 n1, .int .i64 n2, .int .i64 n3, .slice a xs.length cap] 26) := ⟨_, rfl⟩
  have hb0 : Below w.heap.size w W := by rw [hW]; exact (Below.refl _ _).alloc (Nat.le_refl _) _
  have hbx : Box4 w.heap.size n1 n2 n3 (.slice a xs.length cap) W := by rw [hW]; exact Box4.start _ _ _ _ _ _
  have HW : Hid (W = w.alloc (.cells #[.int .i64 n1, .int .i64 n2, .int .i64 n3, .slice a xs.length cap] 26)) := hW
  have HK : Hid (∀ w', Below W.heap.size W w' → Box4 w.heap.size n1 n2 n3 (.slice a xs.length cap) w') := fun w' h => hbx.below h
  have HEnd : Hid (∀ w', Below W.heap.size W w' → Below w.heap.size w w') := fun w' h => hb0.trans (h.mono hb0.size)
  have HNU : Hid (∀ w', Below W.heap.size W w' → ints.Nums w' b ts) := fun w' h => (hk.below hb0).below h
  have HSTR : Hid (∀ w', Below W.heap.size W w' → Strs w' a xs) := fun w' h => (hl.below hb0).below h
  have HCF : Hid (∀ w', Below W.heap.size W w' → Calls _ _ _ w' _) := fun w' h => impl_conf w' n1 n2 n3 a cap xs hn ((hl.below hb0).below h) hz
  have HFD : Hid (∀ w', Below W.heap.size W w' → Calls _ _ _ w' _) := fun w' h => impl_first w' n1 n2 n3 a cap xs hn ((hl.below hb0).below h) hz
  have HRM : Hid (∀ w, Calls _ _ _ w _) := fun w => readMap_any m w
  have HAP : Hid (∀ w', Below W.heap.size W w' → Calls _ _ _ w' _) := fun w' h => allPlaces_any w' b cb ts xs.length hn ht ((hk.below hb0).below h)
  have HZ : Hid (∀ i (hi : i < xs.length), xs[i].size ≤ 1048576) := hz
  have HNO : Hid (∀ {w' : World} {e : Ending}, planPre n1 n2 n3 xs m ts = false ∨ planK n1 n2 xs ts m ts.length = none → e = .returned (.tuple #[.slice none 0 0, .bool false]) → Below w.heap.size w w' → PlAns n1 n2 n3 xs m ts w e w' ∧ Below w.heap.size w w') := fun h1 h2 h3 => ⟨pl_no h1 h2 h3, h3⟩
  have HYES : Hid (∀ {w' : World} {e : Ending} {v : Value} {q : ByteArray} {l : List Int}, planPre n1 n2 n3 xs m ts = true → planK n1 n2 xs ts m ts.length = some (q, l) → e = .returned (.tuple #[v, .bool true]) → w'.ownsRow w.heap.size 2 1 v l.length (l.map (Value.int .i64)) → Below w.heap.size w w' → PlAns n1 n2 n3 xs m ts w e w' ∧ Below w.heap.size w w') := fun h1 h2 h3 h4 h5 => ⟨pl_yes h1 h2 h3 h4 h5, h5⟩
  have HPD : Hid (planPre n1 n2 n3 xs m ts = (configOk n1 n2 n3 xs && (mapOk m && (decide (ts.length ≤ 400) && allIn xs.length ts ts.length)))) := rfl
  have HSZ : Hid (w.heap.size ≤ W.heap.size) := hb0.size
  have HMO : Hid (mapOk m = true → ∀ k q l, planK n1 n2 xs ts m k = some (q, l) → mapOk q = true ∧ l.length = k) := fun hm k q l h => ⟨planK_map n1 n2 xs ts m hm k h, planK_len n1 n2 xs ts m k h⟩
  have HFE : Hid (configOk n1 n2 n3 xs = true → firstData n1 n2 n3 xs = 4 + n2) := fun h => by unfold firstData; rw [h, if_pos rfl]
  generalize PlAns n1 n2 n3 xs m ts w = ANS at HNO HYES ⊢
  have hal := arrOf_length m
  generalize arrOf m = x at HRM hal
  clear hW hb0 hbx hl hz hk
  cases hc : configOk n1 n2 n3 xs with
  | false =>
    rw [hc] at HCF HPD
    have HF : Hid (planPre n1 n2 n3 xs m ts = false) := HPD.out
    generalize mapOk m = mo at HRM
    clear hc HPD HMO HFE
    go_enter Try.func9, Try.ntmps9
    go_wp2_with fail
    rw [← HW.out]
    refine (HRM.out _).mono ?_
    rintro e w1 ⟨rfl, hb1⟩
    obtain ⟨X, hX⟩ : ∃ X, X = w1.alloc (.cells (cs x) 63) := ⟨_, rfl⟩
    have HX : Hid (X = w1.alloc (.cells (cs x) 63)) := hX
    have HBX : Hid (Below W.heap.size W X) := by rw [hX]; exact hb1.alloc hb1.size _
    clear hX hb1
    obtain ⟨m0, m1, m2, m3⟩ := HK.out X HBX.out
    go_wp2_with (refine wpList_storeNew _ rfl _ _ rfl rfl x rfl hal ?_; rw [← HX.out])
    refine (HCF.out X HBX.out).mono ?_
    rintro e w2 ⟨rfl, hb2⟩
    have HB2 : Hid (Below W.heap.size W w2) := HBX.out.trans (hb2.mono HBX.out.size)
    clear hb2 m0 m1 m2 m3
    go_wp2
    go_ret2
    exact HNO.out (.inl HF.out) rfl (HEnd.out _ HB2.out)
  | true =>
    rw [hc] at HCF HPD
    have HFE2 : Hid (firstData n1 n2 n3 xs = 4 + n2) := HFE.out hc
    rw [HFE2.out] at HFD
    cases hm : mapOk m with
    | false =>
      rw [hm] at HRM HPD
      have HF : Hid (planPre n1 n2 n3 xs m ts = false) := HPD.out
      clear hc hm HPD HMO HFE
      go_enter Try.func9, Try.ntmps9
      go_wp2_with fail
      rw [← HW.out]
      refine (HRM.out _).mono ?_
      rintro e w1 ⟨rfl, hb1⟩
      obtain ⟨X, hX⟩ : ∃ X, X = w1.alloc (.cells (cs x) 63) := ⟨_, rfl⟩
      have HX : Hid (X = w1.alloc (.cells (cs x) 63)) := hX
      have HBX : Hid (Below W.heap.size W X) := by rw [hX]; exact hb1.alloc hb1.size _
      clear hX hb1
      obtain ⟨m0, m1, m2, m3⟩ := HK.out X HBX.out
      go_wp2_with (refine wpList_storeNew _ rfl _ _ rfl rfl x rfl hal ?_; rw [← HX.out])
      refine (HCF.out X HBX.out).mono ?_
      rintro e w2 ⟨rfl, hb2⟩
      have HB2 : Hid (Below W.heap.size W w2) := HBX.out.trans (hb2.mono HBX.out.size)
      clear hb2 m0 m1 m2 m3
      go_wp2
      go_ret2
      exact HNO.out (.inl HF.out) rfl (HEnd.out _ HB2.out)
    | true =>
      rw [hm] at HRM HPD
      have HM2 : Hid (∀ k q l, planK n1 n2 xs ts m k = some (q, l) → mapOk q = true ∧ l.length = k) := HMO.out hm
      by_cases h400 : ts.length ≤ 400
      · have hle : ¬ ((400 : Int) < (ts.length : Int)) := by omega
        have HPD2 : Hid (planPre n1 n2 n3 xs m ts = allIn xs.length ts ts.length) := by show planPre n1 n2 n3 xs m ts = _; rw [HPD.out, decide_eq_true h400]; simp
        clear hc hm HPD HMO HFE
        cases hin : allIn xs.length ts ts.length with
        | false =>
          rw [hin] at HAP HPD2
          have HF : Hid (planPre n1 n2 n3 xs m ts = false) := HPD2.out
          clear hin
          go_enter Try.func9, Try.ntmps9
          go_wp2_with fail
          rw [← HW.out]
          refine (HRM.out _).mono ?_
          rintro e w1 ⟨rfl, hb1⟩
          obtain ⟨X, hX⟩ : ∃ X, X = w1.alloc (.cells (cs x) 63) := ⟨_, rfl⟩
          have HX : Hid (X = w1.alloc (.cells (cs x) 63)) := hX
          have HBX : Hid (Below W.heap.size W X) := by rw [hX]; exact hb1.alloc hb1.size _
          clear hX hb1
          obtain ⟨m0, m1, m2, m3⟩ := HK.out X HBX.out
          go_wp2_with (refine wpList_storeNew _ rfl _ _ rfl rfl x rfl hal ?_; rw [← HX.out])
          refine (HCF.out X HBX.out).mono ?_
          rintro e w2 ⟨rfl, hb2⟩
          have HB2 : Hid (Below W.heap.size W w2) := HBX.out.trans (hb2.mono HBX.out.size)
          clear hb2 m0 m1 m2 m3
          obtain ⟨m0, m1, m2, m3⟩ := HK.out w2 HB2.out
          go_wp2_with fail
          refine (HAP.out w2 HB2.out).mono ?_
          rintro e w3 ⟨rfl, rfl⟩
          go_wp2
          go_ret2
          exact HNO.out (.inl HF.out) rfl (HEnd.out _ HB2.out)
        | true =>
          rw [hin] at HAP HPD2
          have HF : Hid (planPre n1 n2 n3 xs m ts = true) := HPD2.out
          have HIN : Hid (∀ k, k < ts.length → placeB xs.length (ts.getD k 0) = true) := fun k q => allIn_at xs.length ts hin k q
          clear hin
          go_enter Try.func9, Try.ntmps9
          go_wp2_with fail
          rw [← HW.out]
          refine (HRM.out _).mono ?_
          rintro e w1 ⟨rfl, hb1⟩
          obtain ⟨X, hX⟩ : ∃ X, X = w1.alloc (.cells (cs x) 63) := ⟨_, rfl⟩
          have HX : Hid (X = w1.alloc (.cells (cs x) 63)) := hX
          have HBX : Hid (Below W.heap.size W X) := by rw [hX]; exact hb1.alloc hb1.size _
          clear hX hb1
          obtain ⟨m0, m1, m2, m3⟩ := HK.out X HBX.out
          go_wp2_with (refine wpList_storeNew _ rfl _ _ rfl rfl x rfl hal ?_; rw [← HX.out])
          refine (HCF.out X HBX.out).mono ?_
          rintro e w2 ⟨rfl, hb2⟩
          have HB2 : Hid (Below W.heap.size W w2) := HBX.out.trans (hb2.mono HBX.out.size)
          clear hb2 m0 m1 m2 m3
          obtain ⟨m0, m1, m2, m3⟩ := HK.out w2 HB2.out
          go_wp2_with fail
          refine (HAP.out w2 HB2.out).mono ?_
          rintro e w3 ⟨rfl, rfl⟩
          go_wp2
          clear m0 m1 m2 m3
          go_loopw [1, 9, 10, 42] (fun sm sok v i wr => ∃ (k : Nat) (q : ByteArray) (l : List Int), k ≤ ts.length ∧ i = .int .i64 (k : Int) ∧ sm = .string q ∧ sok = .bool true ∧ planK n1 n2 xs ts m k = some (q, l) ∧ wr.ownsRow W.heap.size 2 1 v l.length (l.map (Value.int .i64)) ∧ Below W.heap.size W wr) (fun _ _ _ i _ => ts.length - (intOf i).toNat)
          case atStart => exact ⟨0, m, [], Nat.zero_le _, rfl, rfl, rfl, rfl, ⟨rfl, .inl ⟨rfl, rfl⟩⟩, HB2.out⟩
          case round =>
            obtain ⟨k, q, l, hk, rfl, rfl, rfl, hpk, hown, hb⟩ := hrel
            have HPK : Hid (planK n1 n2 xs ts m k = some (q, l)) := hpk
            have HO : Hid (wr.ownsRow W.heap.size 2 1 u10 l.length (l.map (Value.int .i64))) := hown
            have HB : Hid (Below W.heap.size W wr) := hb
            clear hown hb hpk
            by_cases hlt : k < ts.length
            · have hlti : (k : Int) < (ts.length : Int) := by omega
              have hk0 : (0 : Int) ≤ (k : Int) := by omega
              obtain ⟨p, hpe, hpl⟩ := placeB_nat (HIN.out k hlt)
              obtain ⟨b2, off, rfl, c0⟩ := HNU.out wr HB.out k hlt
              rw [getD_intI2 ts k hlt, hpe] at c0
              obtain ⟨b3, o3, hae, d0⟩ := HSTR.out wr HB.out p hpl
              have HKD : Hid (kd xs (ts.getD k 0) = xs[p]) := by show kd xs (ts.getD k 0) = _; rw [hpe, kd_at p hpl]
              have HRU : Hid (∀ w, Calls _ _ _ w _) := fun w => impl_run xs[p] w (HZ.out p hpl)
              have HPS : Hid (planK n1 n2 xs ts m (k + 1) = if findOf q (4 + n2) n1 (runOf (kd xs (ts.getD k 0))) < 0 then none else some (turned q (findOf q (4 + n2) n1 (runOf (kd xs (ts.getD k 0)))) (runOf (kd xs (ts.getD k 0))), l ++ [findOf q (4 + n2) n1 (runOf (kd xs (ts.getD k 0)))])) := by
                show planK n1 n2 xs ts m (k + 1) = _
                rw [planK, HPK.out]
              rw [HKD.out] at HPS
              have HFL : Hid (∀ (n : Later wr), _) := fun n => HFD.out n.world (HB.out.trans (n.below.mono HB.out.size))
              have HFI : Hid (∀ (n : Later wr), _) := fun n => impl_find q (4 + n2) n1 (runOf xs[p]) n.world
              have HTK : Hid (∀ (f : Int) w, Calls _ _ _ w _) := fun f w => impl_take w q f (runOf xs[p])
              have HIN2 : Hid (findOf q (4 + n2) n1 (runOf xs[p]) = -1 ∨ _) := find_in q (4 + n2) n1 (runOf xs[p])
              obtain ⟨hmq, hll⟩ := HM2.out k q l HPK.out
              have hbx := HK.out wr HB.out
              have m3 := hbx.c3
              have X0 := fun n : Later wr => Later.cell hbx.c0 n
              have X1 := fun n : Later wr => Later.cell hbx.c1 n
              have X2 := fun n : Later wr => Later.cell hbx.c2 n
              have X3 := fun n : Later wr => Later.cell hbx.c3 n
              have hne := some_later wr
              have hpl2 : (p : Int) < (xs.length : Int) := by omega
              have hp0 : (0 : Int) ≤ (p : Int) := by omega
              subst hae
              generalize runOf xs[p] = rn at HRU HPS HFI HTK HIN2
              generalize xs[p] = sp at d0 HRU
              generalize 4 + n2 = f at HPS HFI HFL HIN2
              clear hbx
              rcases HIN2.out with hng | ⟨t, u, rfl, hfe, hu1, htu, htk⟩
              · rw [hng] at HFI HPS
                have HNN : Hid (planK n1 n2 xs ts m ts.length = none) := planK_none n1 n2 xs ts m (k + 1) ts.length (by omega) HPS.out
                have HT2 : Hid (∀ w, Calls _ _ _ w _) := fun w => HTK.out (-1) w
                rw [take_neg q rn] at HT2
                clear HPS HIN2 hng hpe HKD hll hmq HTK
                go_wp2_with fail
                refine (HRU.out _).mono ?_
                rintro e w3 ⟨rfl, rfl⟩
                go_wp2
                refine region_later (by kernel_rfl) (by kernel_rfl) ?_
                repeat (go_big_quiet_step (first | (go_at_call 14; exact later_of (HFL.out _)) | (go_at_call 40; exact later_of (HFI.out _))))
                refine wpQuiet_nil ?_
                intro w' hw'
                obtain ⟨nn, rfl⟩ := hw'
                have HB4 : Hid (Below W.heap.size W nn.world) := HB.out.trans (nn.below.mono HB.out.size)
                generalize nn.world = w4 at HB4 ⊢
                clear X0 X1 X2 X3 c0 d0 m3
                go_wp2_with fail
                refine (HT2.out _).mono ?_
                rintro e w5 ⟨rfl, hb5⟩
                have HB5 : Hid (Below W.heap.size W w5) := HB4.out.trans (hb5.mono HB4.out.size)
                clear hb5
                go_wp2
                go_ret2
                exact HNO.out (.inr HNN.out) rfl (HEnd.out _ HB5.out)
              · rw [hfe] at HFI HPS
                have HPS2 : Hid (planK n1 n2 xs ts m (k + 1) = some (turned q (t : Int) (u : Int), l ++ [(t : Int)])) := by
                  have := HPS.out
                  rw [if_neg (by omega)] at this
                  exact this
                have HT2 : Hid (∀ w, Calls _ _ _ w _) := fun w => HTK.out (t : Int) w
                have HOE : Hid (outOf true q (t : Int) (u : Int) = turned q (t : Int) (u : Int)) := rfl
                rw [htk, HOE.out] at HT2
                generalize turned q (t : Int) (u : Int) = q2 at HT2 HPS2
                have HLK : Hid (l.length ≤ 1048576) := by show l.length ≤ _; omega
                clear HPS HIN2 hfe hpe HKD hll hmq htk hu1 htu HTK HOE
                go_wp2_with fail
                refine (HRU.out _).mono ?_
                rintro e w3 ⟨rfl, rfl⟩
                go_wp2
                refine region_later (by kernel_rfl) (by kernel_rfl) ?_
                repeat (go_big_quiet_step (first | (go_at_call 14; exact later_of (HFL.out _)) | (go_at_call 40; exact later_of (HFI.out _))))
                refine wpQuiet_nil ?_
                intro w' hw'
                obtain ⟨nn, rfl⟩ := hw'
                have HB4 : Hid (Below W.heap.size W nn.world) := HB.out.trans (nn.below.mono HB.out.size)
                have HO4 : Hid (nn.world.ownsRow W.heap.size 2 1 u10 l.length (l.map (Value.int .i64))) := ints.own_below HO.out nn.below
                generalize nn.world = w4 at HB4 HO4 ⊢
                clear X0 X1 X2 X3 c0 d0 m3
                go_wp2_with fail
                refine (HT2.out _).mono ?_
                rintro e w5 ⟨rfl, hb5⟩
                have HB5 : Hid (Below W.heap.size W w5) := HB4.out.trans (hb5.mono HB4.out.size)
                have HO5 : Hid (w5.ownsRow W.heap.size 2 1 u10 l.length (l.map (Value.int .i64))) := ints.own_below HO4.out hb5
                clear hb5
                go_wp2_with (refine ints.wpList_push w5 (by rfl) _ _ (by rfl) W.heap.size u10 l (t : Int) HO5.out (by rfl) (by rfl) HLK.out HB5.out.size ?_; intro g2 c2 w6 hown6 hb6 hB6; have HO6 : Hid (_) := hown6; have HB6 : Hid (Below W.heap.size W w6) := HB5.out.trans hb6; clear hown6 hb6 hB6)
                go_roundw
                case rel => exact ⟨k + 1, q2, l ++ [(t : Int)], by omega, by go_num, rfl, rfl, HPS2.out, HO6.out, HB6.out⟩
                case measure => simp [intOf]; omega
            · obtain rfl : k = ts.length := by omega
              go_wp2
              go_ret2
              exact HYES.out HF.out HPK.out rfl (ints.own_mono HO.out HSZ.out) (HEnd.out _ HB.out)
      · have hle : (400 : Int) < (ts.length : Int) := by omega
        have HF : Hid (planPre n1 n2 n3 xs m ts = false) := by show planPre n1 n2 n3 xs m ts = false; rw [HPD.out, decide_eq_false h400]; rfl
        clear hc hm HPD HMO HFE
        go_enter Try.func9, Try.ntmps9
        go_wp2_with fail
        rw [← HW.out]
        refine (HRM.out _).mono ?_
        rintro e w1 ⟨rfl, hb1⟩
        obtain ⟨X, hX⟩ : ∃ X, X = w1.alloc (.cells (cs x) 63) := ⟨_, rfl⟩
        have HX : Hid (X = w1.alloc (.cells (cs x) 63)) := hX
        have HBX : Hid (Below W.heap.size W X) := by rw [hX]; exact hb1.alloc hb1.size _
        clear hX hb1
        obtain ⟨m0, m1, m2, m3⟩ := HK.out X HBX.out
        go_wp2_with (refine wpList_storeNew _ rfl _ _ rfl rfl x rfl hal ?_; rw [← HX.out])
        refine (HCF.out X HBX.out).mono ?_
        rintro e w2 ⟨rfl, hb2⟩
        have HB2 : Hid (Below W.heap.size W w2) := HBX.out.trans (hb2.mono HBX.out.size)
        clear hb2 m0 m1 m2 m3
        go_wp2
        go_ret2
        exact HNO.out (.inl HF.out) rfl (HEnd.out _ HB2.out)
end Go.Proofs.Ytomlogkbndmaaaa.pl
