/-
  Planned, by the specification.
-/
import Derived.Test.YtomlogkbndmaaaaPlanMath
import Derived.Test.YtomlogkbndmaaaaOlds1
namespace Go.Proofs.Ytomlogkbndmaaaa.pl
open Go.RowKit lb kinds obj img later

set_option maxHeartbeats 2000000 in
set_option maxRecDepth 20000 in
theorem l10Plan_any (w : World) (n1 n2 n3 : Int) (a : Option Addr) (cap : Nat) (xs : List ByteArray) (m : ByteArray) (b : Option Addr) (cb : Nat) (ts : List Int) (_hn : xs.length ≤ 1048576) (hl : Strs w a xs) (hz : ∀ i (hi : i < xs.length), xs[i].size ≤ 1048576) (ht : ts.length ≤ 400) (hk : ints.Nums w b ts) (hpre : planPre n1 n2 n3 xs m ts = true) :
    Calls Try.prog 44 #[.agg #[.int .i64 n1, .int .i64 n2, .int .i64 n3, .slice a xs.length cap], .string m, .slice b ts.length cb] w fun e w' => ((planK n1 n2 xs ts m ts.length = none ∧ e = .returned (.tuple #[.slice none 0 0, .string ⟨#[]⟩, .bool false])) ∨ (∃ q l v, planK n1 n2 xs ts m ts.length = some (q, l) ∧ e = .returned (.tuple #[v, .string q, .bool true]) ∧ w'.ownsRow w.heap.size 2 1 v l.length (l.map (Value.int .i64)))) ∧ Below w.heap.size w w' := by
  have hpp := hpre
  unfold planPre at hpp
  rw [Bool.and_eq_true, Bool.and_eq_true, Bool.and_eq_true] at hpp
  obtain ⟨hc, hm, _, hin⟩ := hpp
  obtain ⟨h1, h2, h3, h4, h5⟩ := conf_lines hc
  obtain ⟨W, hW⟩ : ∃ W, W = w.alloc (.cells #[.int .i64 n1, .int .i64 n2, .int .i64 n3, .slice a xs.length cap] 26) := ⟨_, rfl⟩
  have hb0 : Below w.heap.size w W := by rw [hW]; exact (Below.refl _ _).alloc (Nat.le_refl _) _
  have hbx : Box4 w.heap.size n1 n2 n3 (.slice a xs.length cap) W := by rw [hW]; exact Box4.start _ _ _ _ _ _
  obtain ⟨X, hX⟩ : ∃ X, X = W.alloc (.cells #[] 2) := ⟨_, rfl⟩
  have hbX : Below W.heap.size W X := by rw [hX]; exact (Below.refl _ _).alloc (Nat.le_refl _) _
  have HW : Hid (W = w.alloc (.cells #[.int .i64 n1, .int .i64 n2, .int .i64 n3, .slice a xs.length cap] 26)) := hW
  have HX : Hid (X = W.alloc (.cells #[] 2)) := hX
  have HWS : Hid (W.heap.size = w.heap.size + 1) := by show W.heap.size = _; rw [hW]; simp
  have HK : Hid (∀ w', Below W.heap.size W w' → Box4 w.heap.size n1 n2 n3 (.slice a xs.length cap) w') := fun w' h => hbx.below h
  have HEnd : Hid (∀ w', Below W.heap.size W w' → Below w.heap.size w w') := fun w' h => hb0.trans (h.mono hb0.size)
  have HST : Hid (∀ w', Below W.heap.size W w' → Strs w' a xs) := fun w' h => (hl.below hb0).below h
  have HNU : Hid (∀ w', Below W.heap.size W w' → ints.Nums w' b ts) := fun w' h => (hk.below hb0).below h
  have HO0 : Hid (X.ownsRow W.heap.size 2 1 (.slice (some ⟨W.heap.size, 0, none⟩) 0 0) (([] : List Int)).length ((([] : List Int)).map (Value.int .i64))) := ⟨rfl, .inr ⟨W.heap.size, 0, #[], rfl, Nat.le_refl _, by rw [hX]; exact heap_alloc_last W _, Nat.le_refl _, Nat.zero_le _, rfl, rfl⟩⟩
  rw [HWS.out] at HO0
  have HBX : Hid (Below W.heap.size W X) := hbX
  have HZ : Hid (∀ i (hi : i < xs.length), xs[i].size ≤ 1048576) := hz
  have HIN : Hid (∀ k, k < ts.length → placeB xs.length (ts.getD k 0) = true) := fun k q => allIn_at xs.length ts hin k q
  have HMO : Hid (∀ k q l, planK n1 n2 xs ts m k = some (q, l) → mapOk q = true ∧ l.length = k) := fun k q l h => ⟨planK_map n1 n2 xs ts m hm k h, planK_len n1 n2 xs ts m k h⟩
  have hw1 : IntKind.i64.wrap (4 + n2) = 4 + n2 := by rw [IntKind.wrap_i64]; omega
  have HSB : Hid (w.heap.size ≤ w.heap.size + 1) := by show w.heap.size ≤ w.heap.size + 1; omega
  clear hW hb0 hbx hX hbX hl hk hz hin hm hc hpre h1 h2 h3 h4 h5
  go_enter Try.func44, Try.ntmps44
  go_wp2
  rw [← HW.out, ← HX.out]
  go_loopw [1, 9, 10] (fun sm v i wr => ∃ (k : Nat) (q : ByteArray) (l : List Int), k ≤ ts.length ∧ i = .int .i64 (k : Int) ∧ sm = .string q ∧ planK n1 n2 xs ts m k = some (q, l) ∧ wr.ownsRow (w.heap.size + 1) 2 1 v l.length (l.map (Value.int .i64)) ∧ Below W.heap.size W wr) (fun _ _ i _ => ts.length - (intOf i).toNat)
  case atStart => exact ⟨0, m, [], Nat.zero_le _, rfl, rfl, rfl, HO0.out, HBX.out⟩
  case round =>
    obtain ⟨k, q, l, hk, rfl, rfl, hpk, hown, hb⟩ := hrel
    have HPK : Hid (planK n1 n2 xs ts m k = some (q, l)) := hpk
    have HO : Hid (wr.ownsRow (w.heap.size + 1) 2 1 u9 l.length (l.map (Value.int .i64))) := hown
    have HB : Hid (Below W.heap.size W wr) := hb
    clear hown hb hpk
    by_cases hlt : k < ts.length
    · have hlti : (k : Int) < (ts.length : Int) := by omega
      have hk0 : (0 : Int) ≤ (k : Int) := by omega
      obtain ⟨p, hpe, hpl⟩ := placeB_nat (HIN.out k hlt)
      obtain ⟨b2, off, rfl, c0⟩ := HNU.out wr HB.out k hlt
      rw [getD_intI2 ts k hlt, hpe] at c0
      obtain ⟨b3, o3, hae, d0⟩ := HST.out wr HB.out p hpl
      have HKD : Hid (kd xs (ts.getD k 0) = xs[p]) := by show kd xs (ts.getD k 0) = _; rw [hpe, kd_at p hpl]
      have HRU : Hid (∀ w, Calls Try.prog 75 #[.string xs[p]] w fun e w' => e = .returned (.int .i64 (runOf xs[p])) ∧ w' = w) := fun w => (spec_run xs[p] w (HZ.out p hpl)).mono fun _ _ h => ⟨h.1, h.2.symm⟩
      have HPS : Hid (planK n1 n2 xs ts m (k + 1) = if findOf q (4 + n2) n1 (runOf (kd xs (ts.getD k 0))) < 0 then none else some (turned q (findOf q (4 + n2) n1 (runOf (kd xs (ts.getD k 0)))) (runOf (kd xs (ts.getD k 0))), l ++ [findOf q (4 + n2) n1 (runOf (kd xs (ts.getD k 0)))])) := by
        show planK n1 n2 xs ts m (k + 1) = _
        rw [planK, HPK.out]
      rw [HKD.out] at HPS
      have HFI : Hid (∀ w, Calls _ _ _ w _) := fun w => spec_find q (4 + n2) n1 (runOf xs[p]) w
      have HIN2 : Hid (findOf q (4 + n2) n1 (runOf xs[p]) = -1 ∨ _) := find_in q (4 + n2) n1 (runOf xs[p])
      obtain ⟨hmq, hll⟩ := HMO.out k q l HPK.out
      have hbx := HK.out wr HB.out
      obtain ⟨m0, m1, m2, m3⟩ := hbx
      have hpl2 : (p : Int) < (xs.length : Int) := by omega
      have hp0 : (0 : Int) ≤ (p : Int) := by omega
      subst hae
      generalize runOf xs[p] = rn at HRU HPS HFI HIN2
      generalize xs[p] = sp at d0 HRU
      have hqs := mapOk_size hmq
      rcases HIN2.out with hne | ⟨t, u, rfl, hfe, hu1, htu, htk⟩
      · rw [hne] at HFI HPS
        have HNO : Hid (planK n1 n2 xs ts m ts.length = none) := planK_none n1 n2 xs ts m (k + 1) ts.length (by omega) HPS.out
        clear HPS HIN2 hne hpe HKD hll hmq hqs
        go_wp2
        go_quiet (first | (go_at_call 75; refine Calls.quiet_of_same (HRU.out _)))
        have HBd : Hid (∀ j, Below W.heap.size W (wr.drewN j)) := fun j => ⟨HB.out.os, HB.out.tape, HB.out.output, HB.out.size, HB.out.block⟩
        go_wp2_with fail
        refine (HFI.out _).mono ?_
        rintro e w2 ⟨rfl, hb2⟩
        have HB2 : Hid (Below W.heap.size W w2) := (HBd.out _).trans (hb2.mono (HBd.out _).size)
        clear hb2 m0 m1 m2 m3 c0 d0
        go_wp2
        go_ret3
        exact ⟨.inl ⟨HNO.out, rfl⟩, HEnd.out _ HB2.out⟩
      · rw [hfe] at HFI HPS
        have HPS2 : Hid (planK n1 n2 xs ts m (k + 1) = some (turned q (t : Int) (u : Int), l ++ [(t : Int)])) := by
          have := HPS.out
          rw [if_neg (by omega)] at this
          exact this
        have HTU : Hid (∀ w, Calls _ _ _ w _) := fun w => l6Turn_any q hqs t u htu w
        have HTE : Hid (turned q (t : Int) (u : Int) = ⟨(turnK q.data.toList t u).toArray⟩) := by show turned q (t : Int) (u : Int) = _; simp [turned]
        rw [← HTE.out] at HTU
        generalize turned q (t : Int) (u : Int) = q2 at HTU HPS2
        have HLK : Hid (l.length ≤ 1048576) := by show l.length ≤ _; omega
        have hnt : ¬ ((t : Int) < 0) := by omega
        clear HPS HIN2 hfe hpe HKD hll hmq hqs htk hu1 htu HTE
        go_wp2
        go_quiet (first | (go_at_call 75; refine Calls.quiet_of_same (HRU.out _)))
        have HBd : Hid (∀ j, Below W.heap.size W (wr.drewN j)) := fun j => ⟨HB.out.os, HB.out.tape, HB.out.output, HB.out.size, HB.out.block⟩
        have HOd : Hid (∀ j, (wr.drewN j).ownsRow (w.heap.size + 1) 2 1 u9 l.length (l.map (Value.int .i64))) := fun j => HO.out
        go_wp2_with fail
        refine (HFI.out _).mono ?_
        rintro e w2 ⟨rfl, hb2⟩
        have HB2 : Hid (Below W.heap.size W w2) := (HBd.out _).trans (hb2.mono (HBd.out _).size)
        have HO2 : Hid (w2.ownsRow (w.heap.size + 1) 2 1 u9 l.length (l.map (Value.int .i64))) := ints.own_below (HOd.out _) hb2
        clear hb2 m0 m1 m2 m3 c0 d0
        go_wp2_with fail
        refine (HTU.out _).mono ?_
        rintro e w3 ⟨rfl, hb3⟩
        have HB3 : Hid (Below W.heap.size W w3) := HB2.out.trans (hb3.mono HB2.out.size)
        have HO3 : Hid (w3.ownsRow (w.heap.size + 1) 2 1 u9 l.length (l.map (Value.int .i64))) := ints.own_below HO2.out hb3
        clear hb3
        go_wp2_with (refine ints.wpList_push w3 (by rfl) _ _ (by rfl) (w.heap.size + 1) u9 l (t : Int) HO3.out (by rfl) (by rfl) HLK.out (by have h1 := HB3.out.size; have h2 := HWS.out; omega) ?_; intro g2 c2 w6 hown6 hb6 hB6; have HO6 : Hid (_) := hown6; have HB6 : Hid (Below W.heap.size W w6) := HB3.out.trans (by have h2 := HWS.out; rw [h2]; exact hb6); clear hown6 hb6 hB6)
        go_roundw
        case rel => exact ⟨k + 1, q2, l ++ [(t : Int)], by omega, by go_num, rfl, HPS2.out, HO6.out, HB6.out⟩
        case measure => simp [intOf]; omega
    · obtain rfl : k = ts.length := by omega
      go_wp2
      go_ret3
      exact ⟨.inr ⟨q, l, u9, HPK.out, rfl, ints.own_mono HO.out HSB.out⟩, HEnd.out _ HB.out⟩
end Go.Proofs.Ytomlogkbndmaaaa.pl
