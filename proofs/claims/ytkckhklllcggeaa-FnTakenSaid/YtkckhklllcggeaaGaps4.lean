/-
  FreeOf, FindRun and Gaps by the specification; nothing that was there is written.
-/
import Derived.Test.YtkckhklllcggeaaGaps3
import Derived.BigQuiet
import Derived.Deep.QuietTactic
namespace Go.Proofs.Ytkckhklllcggeaa.lb
open Go.RowKit
open ints

theorem l6Range_any (w : World) (m : ByteArray) (a b : Int) :
    Calls Try.prog 55 #[.string m, .int .i64 a, .int .i64 b] w fun e w' => e = .returned (.bool (mapOk m && rangeB a b)) ∧ Below w.heap.size w w' := by
  have HM : Hid (∀ w, _) := fun w => l6Map_any m w
  cases hm : mapOk m with
  | false =>
    rw [hm] at HM
    clear hm
    go_enter Try.func55, Try.ntmps55
    go_wp2_with fail
    refine (HM.out _).mono ?_
    rintro e w1 ⟨rfl, hb1⟩
    go_wp2
    go_ret
    exact ⟨rfl, hb1⟩
  | true =>
    rw [hm] at HM
    clear hm
    by_cases h1 : 0 ≤ a
    · by_cases h2 : a ≤ b
      · have hr : rangeB a b = decide (b ≤ 128) := by rw [rangeB, decide_eq_true h1, decide_eq_true h2]; rfl
        rw [hr]
        go_enter Try.func55, Try.ntmps55
        go_wp2_with fail
        refine (HM.out _).mono ?_
        rintro e w1 ⟨rfl, hb1⟩
        go_wp2
        go_ret
        exact ⟨by simp, hb1⟩
      · have hr : rangeB a b = false := by rw [rangeB, decide_eq_true h1, decide_eq_false h2]; rfl
        rw [hr]
        go_enter Try.func55, Try.ntmps55
        go_wp2_with fail
        refine (HM.out _).mono ?_
        rintro e w1 ⟨rfl, hb1⟩
        go_wp2
        go_ret
        exact ⟨rfl, hb1⟩
    · have hr : rangeB a b = false := by rw [rangeB, decide_eq_false h1]; rfl
      rw [hr]
      go_enter Try.func55, Try.ntmps55
      go_wp2_with fail
      refine (HM.out _).mono ?_
      rintro e w1 ⟨rfl, hb1⟩
      go_wp2
      go_ret
      exact ⟨rfl, hb1⟩
set_option maxHeartbeats 1000000 in
theorem spec_free (m : ByteArray) (a b : Int) (w : World) :
    Calls Try.prog 22 #[.string m, .int .i64 a, .int .i64 b] w fun e w' => e = .returned (.int .i64 (freeOf m a b)) ∧ Below w.heap.size w w' := by
  have HR : Hid (∀ w, _) := fun w => l6Range_any w m a b
  cases h : mapOk m && rangeB a b with
  | false =>
    have HFF : Hid (freeOf m a b = -1) := by show freeOf m a b = -1; rw [freeOf, h]; rfl
    rw [h] at HR
    clear h
    go_enter Try.func22, Try.ntmps22
    go_wp2_with fail
    refine (HR.out _).mono ?_
    rintro e w1 ⟨rfl, hb1⟩
    go_wp2
    go_ret
    exact ⟨by rw [HFF.out]; rfl, hb1⟩
  | true =>
    obtain ⟨A, N, rfl, rfl, h128, hm, e1, e2⟩ := yes_nat h
    have HFF : Hid (freeOf m (A : Int) ((A + N : Nat) : Int) = (freeN m.data.toList A N : Int)) := by show freeOf _ _ _ = _; rw [freeOf, h, if_pos rfl, e1, e2]
    generalize freeOf m (A : Int) ((A + N : Nat) : Int) = r at HFF ⊢
    rw [h] at HR
    have hms := mapOk_size hm
    have HBIT : Hid (∀ k : Nat, k < 128 → ∀ w, Calls Try.prog 54 #[.string m, .int .i64 (k : Int)] w fun e w' => e = .returned (.bool (bitAt m.data.toList k)) ∧ w = w') := fun k hk w => l6Bit_any m hms k hk w
    generalize m.data.toList = l at *
    clear h e1 e2 hm
    go_enter Try.func22, Try.ntmps22
    go_wp2_with fail
    refine (HR.out _).mono ?_
    rintro e w1 ⟨rfl, hb1⟩
    have HB1 : Hid (Below w.heap.size w w1) := hb1
    clear hb1
    go_wp2
    go_loop [7, 8] (fun f i => ∃ k : Nat, k ≤ N ∧ i = .int .i64 ((A + k : Nat) : Int) ∧ f = .int .i64 (freeN l A k : Int)) (fun _ i => A + N - (intOf i).toNat)
    case atStart => exact ⟨0, Nat.zero_le _, rfl, rfl⟩
    case round =>
      obtain ⟨k, hk, rfl, rfl⟩ := hrel
      by_cases hlt : k < N
      · have HS : Hid (freeN l A (k + 1) = freeN l A k + (if bitAt l (A + k) = true then 0 else 1)) := rfl
        have hle := freeN_le l A k
        obtain ⟨g, hg⟩ : ∃ g, g = A + k := ⟨_, rfl⟩
        have HG : Hid (g = A + k) := hg
        rw [← hg] at HS ⊢
        have HC : Hid (∀ w, _) := HBIT.out g (by omega)
        have e2 : (g : Int) < ((A + N : Nat) : Int) := by omega
        generalize freeN l A k = F at HS hle ⊢
        clear hg
        cases hb : bitAt l g with
        | true =>
          rw [hb] at HC HS
          clear hb
          go_wp2_with fail
          refine (HC.out _).mono ?_
          rintro e w' ⟨rfl, rfl⟩
          go_wp2
          refine ⟨⟨k + 1, by omega, by have := HG.out; go_num, by rw [HS.out]; rfl⟩, by simp [intOf]; omega⟩
        | false =>
          rw [hb] at HC HS
          clear hb
          go_wp2_with fail
          refine (HC.out _).mono ?_
          rintro e w' ⟨rfl, rfl⟩
          go_wp2
          refine ⟨⟨k + 1, by omega, by have := HG.out; go_num, by rw [HS.out]; go_num⟩, by simp [intOf]; omega⟩
      · have hk2 : k = N := by omega
        subst hk2
        have e2 : ¬ ((A + k : Nat) : Int) < ((A + k : Nat) : Int) := by omega
        go_wp2
        go_ret
        exact ⟨by rw [HFF.out]; rfl, HB1.out⟩
set_option maxHeartbeats 1000000 in
theorem spec_find (m : ByteArray) (a b n : Int) (w : World) :
    Calls Try.prog 30 #[.string m, .int .i64 a, .int .i64 b, .int .i64 n] w fun e w' => e = .returned (.int .i64 (findOf m a b n)) ∧ Below w.heap.size w w' := by
  have HR : Hid (∀ w, _) := fun w => l6Range_any w m a b
  have HI : Hid (∀ w, _) := fun w => in_any w n 1 128
  cases h : mapOk m && rangeB a b with
  | false =>
    have HFF : Hid (findOf m a b n = -1) := by show findOf m a b n = -1; rw [findOf, h]; rfl
    rw [h] at HR
    clear h
    go_enter Try.func30, Try.ntmps30
    go_wp2_with fail
    refine (HR.out _).mono ?_
    rintro e w1 ⟨rfl, hb1⟩
    go_wp2
    go_ret
    exact ⟨by rw [HFF.out]; rfl, hb1⟩
  | true =>
    cases hn : (decide (1 ≤ n) && decide (n ≤ 128)) with
    | false =>
      have HFF : Hid (findOf m a b n = -1) := by show findOf m a b n = -1; rw [findOf, h, hn]; rfl
      rw [h] at HR
      rw [hn] at HI
      clear h hn
      go_enter Try.func30, Try.ntmps30
      go_wp2_with fail
      refine (HR.out _).mono ?_
      rintro e w1 ⟨rfl, hb1⟩
      go_wp2_with fail
      refine (HI.out _).mono ?_
      rintro e w' ⟨rfl, rfl⟩
      go_wp2
      go_ret
      exact ⟨by rw [HFF.out]; rfl, hb1⟩
    | true =>
      obtain ⟨A, N, rfl, rfl, h128, hm, e1, e2⟩ := yes_nat h
      have hnn : 1 ≤ n ∧ n ≤ 128 := by simpa using hn
      obtain ⟨q, rfl⟩ := Int.eq_ofNat_of_zero_le (by omega : 0 ≤ n)
      have hff : findOf m (A : Int) ((A + N : Nat) : Int) (q : Int) = findG q (gapsK m.data.toList A N) := by rw [findOf, h, hn]; simp only [Bool.and_self, if_true, e1, e2, Int.toNat_natCast]
      have hfst := findG_first m.data.toList A N q (by omega)
      rw [← hff] at hfst
      have HFF : Hid (∀ r, IsFirst m.data.toList A N q r → r = findOf m (A : Int) ((A + N : Nat) : Int) (q : Int)) := fun r hr => hr.unique hfst
      rw [h] at HR
      rw [hn] at HI
      have hms := mapOk_size hm
      have HFR : Hid (∀ t : Nat, t + q ≤ 128 → ∀ w, Calls Try.prog 60 #[.string m, .int .i64 (t : Int), .int .i64 (q : Int)] w fun e w' => e = .returned (.bool (freeK m.data.toList t q)) ∧ w = w') := fun t ht w => l6Free_any m hms t q ht w
      generalize findOf m (A : Int) ((A + N : Nat) : Int) (q : Int) = r at HFF ⊢
      generalize m.data.toList = l at *
      clear h hn e1 e2 hm hff hfst
      obtain ⟨hn1, hn2⟩ := hnn
      go_enter Try.func30, Try.ntmps30
      go_wp2_with fail
      refine (HR.out _).mono ?_
      rintro e w1 ⟨rfl, hb1⟩
      have HB1 : Hid (Below w.heap.size w w1) := hb1
      clear hb1
      go_wp2_with fail
      refine (HI.out _).mono ?_
      rintro e w' ⟨rfl, rfl⟩
      go_wp2
      go_loop [9] (fun i => ∃ t : Nat, A ≤ t ∧ t ≤ A + N ∧ i = .int .i64 (t : Int) ∧ ∀ u, A ≤ u → u < t → freeK l u q = false) (fun i => A + N - (intOf i).toNat)
      case atStart => exact ⟨A, Nat.le_refl _, by omega, rfl, fun u h1 h2 => by omega⟩
      case round =>
        obtain ⟨t, ht1, ht2, rfl, hno⟩ := hrel
        have HNO : Hid (∀ u, A ≤ u → u < t → freeK l u q = false) := hno
        clear hno
        by_cases hlt : t + q ≤ A + N
        · have e2 : (t : Int) + (q : Int) ≤ ((A + N : Nat) : Int) := by omega
          have HC : Hid (∀ w, _) := HFR.out t (by omega)
          cases hf : freeK l t q with
          | true =>
            rw [hf] at HC
            have HRES : Hid ((t : Int) = r) := HFF.out t (.inl ⟨t, rfl, ht1, hlt, hf, HNO.out⟩)
            clear hf
            go_wp2_with fail
            refine (HC.out _).mono ?_
            rintro e w' ⟨rfl, rfl⟩
            go_wp2
            go_ret
            exact ⟨by rw [← HRES.out]; rfl, HB1.out⟩
          | false =>
            rw [hf] at HC
            have HNX : Hid (∀ u, A ≤ u → u < t + 1 → freeK l u q = false) := fun u h1 h2 => by
              by_cases e : u = t
              · rw [e]; exact hf
              · exact HNO.out u h1 (by omega)
            clear hf
            go_wp2_with fail
            refine (HC.out _).mono ?_
            rintro e w' ⟨rfl, rfl⟩
            go_wp2
            refine ⟨⟨t + 1, by omega, by omega, by go_num, HNX.out⟩, by simp [intOf]; omega⟩
        · have e2 : ¬ (t : Int) + (q : Int) ≤ ((A + N : Nat) : Int) := by omega
          have HRES : Hid ((-1 : Int) = r) := HFF.out (-1) (.inr ⟨rfl, fun u h1 h2 => HNO.out u h1 (by omega)⟩)
          go_wp2
          go_ret
          exact ⟨by rw [← HRES.out]; rfl, HB1.out⟩
set_option maxHeartbeats 4000000 in
theorem spec_gaps (m : ByteArray) (a b : Int) (w : World) :
    Calls Try.prog 36 #[.string m, .int .i64 a, .int .i64 b] w fun e w' => ∃ v, e = .returned v ∧ w'.ownsRow w.heap.size 41 2 v (gapsOfM m a b).length (cellsOfSpans (gapsOfM m a b)) ∧ Below w.heap.size w w' := by
  have HR : Hid (∀ w, _) := fun w => l6Range_any w m a b
  have HB2 : Hid (Below w.heap.size w (w.alloc (.cells #[] 41))) := by show Below _ _ _; go_grown
  have HO2 : Hid ((w.alloc (.cells #[] 41)).ownsRow w.heap.size 41 2 (.slice (some ⟨w.heap.size, 0, none⟩) 0 0) 0 []) := ⟨rfl, .inr ⟨w.heap.size, 0, #[], rfl, Nat.le_refl _, heap_alloc_last w _, Nat.le_refl _, Nat.zero_le _, rfl, rfl⟩⟩
  cases h : mapOk m && rangeB a b with
  | false =>
    have HE : Hid (gapsOfM m a b = []) := by show gapsOfM m a b = []; rw [gapsOfM, h]; rfl
    rw [h] at HR
    clear h
    go_enter Try.func36, Try.ntmps36
    go_wp2_with fail
    refine (HR.out _).mono ?_
    rintro e w1 ⟨rfl, hb1⟩
    go_wp2
    go_ret
    exact ⟨_, rfl, by rw [HE.out]; exact own_below HO2.out hb1, HB2.out.trans (hb1.mono HB2.out.size)⟩
  | true =>
    obtain ⟨A, N, rfl, rfl, h128, hm, e1, e2⟩ := yes_nat h
    have HE : Hid (gapsOfM m (A : Int) ((A + N : Nat) : Int) = gapsK m.data.toList A N) := by show gapsOfM _ _ _ = _; rw [gapsOfM, h, if_pos rfl, e1, e2]
    generalize gapsOfM m (A : Int) ((A + N : Nat) : Int) = Z at HE ⊢
    rw [h] at HR
    have hms := mapOk_size hm
    have HBIT : Hid (∀ k : Nat, k < 128 → ∀ w, Calls Try.prog 54 #[.string m, .int .i64 (k : Int)] w fun e w' => e = .returned (.bool (bitAt m.data.toList k)) ∧ w = w') := fun k hk w => l6Bit_any m hms k hk w
    generalize m.data.toList = l at *
    clear h e1 e2 hm
    go_enter Try.func36, Try.ntmps36
    go_wp2_with fail
    refine (HR.out _).mono ?_
    rintro e w1 ⟨rfl, hb1⟩
    have HB1 : Hid (Below w.heap.size w w1) := HB2.out.trans (hb1.mono HB2.out.size)
    have HO1 : Hid (w1.ownsRow w.heap.size 41 2 (.slice (some ⟨w.heap.size, 0, none⟩) 0 0) 0 []) := own_below HO2.out hb1
    clear hb1
    go_wp2
    go_loopw [7, 8] (fun v i wr => ∃ k : Nat, k ≤ N ∧ i = .int .i64 ((A + k : Nat) : Int) ∧ wr.ownsRow w.heap.size 41 2 v (gapsK l A k).length (cellsOfSpans (gapsK l A k)) ∧ Below w.heap.size w wr) (fun _ i _ => A + N - (intOf i).toNat)
    case atStart => exact ⟨0, Nat.zero_le _, rfl, HO1.out, HB1.out⟩
    case round =>
      obtain ⟨k, hk, rfl, hown, hb⟩ := hrel
      have HOW : Hid (wr.ownsRow w.heap.size 41 2 _ (gapsK l A k).length (cellsOfSpans (gapsK l A k))) := hown
      have HB : Hid (Below w.heap.size w wr) := hb
      clear hown hb
      by_cases hlt : k < N
      · have HS : Hid (gapsK l A (k + 1) = if bitAt l (A + k) = true then gapsK l A k else if inGapB l A k = true then bump (gapsK l A k) else gapsK l A k ++ [(A + k, 1)]) := rfl
        obtain ⟨hle, hpos, hend⟩ := gapsK_known l A k
        have hlen := gapsK_len l A k
        obtain ⟨g, hg⟩ : ∃ g, g = A + k := ⟨_, rfl⟩
        have HG : Hid (g = A + k) := hg
        rw [← hg] at HS hend ⊢
        have HC : Hid (∀ w, _) := HBIT.out g (by omega)
        have e4 : (g : Int) < ((A + N : Nat) : Int) := by omega
        have hg128 : g < 128 := by omega
        have HLEN : Hid (∀ s ∈ gapsK l A k, s.1 + s.2 ≤ 128) := fun s hs => by have := hlen s hs; omega
        generalize gapsK l A k = R at HOW HS hle hpos hend HLEN
        have HLE : Hid (R.length ≤ k) := hle
        have HPOS : Hid (inGapB l A k = true → 0 < R.length) := hpos
        have HEND : Hid (∀ F p q, R = F ++ [(p, q)] → A ≤ p ∧ p + q ≤ g ∧ (p + q = g ↔ inGapB l A k = true)) := hend
        clear hle hpos hlen hg hend
        cases hb : bitAt l g with
        | true =>
          rw [hb] at HC HS
          clear hb
          go_wp2_with fail
          refine (HC.out _).mono ?_
          rintro e w' ⟨rfl, rfl⟩
          go_wp2
          go_roundw
          case rel => exact ⟨k + 1, by omega, by have := HG.out; go_num, by rw [HS.out]; exact HOW.out, HB.out⟩
          case measure => simp [intOf]; omega
        | false =>
          rw [hb] at HC HS
          clear hb
          by_cases hp : 0 < R.length
          · obtain ⟨F, p, q, rfl⟩ := snoc_of hp
            obtain ⟨hA, hpq, hiff⟩ := HEND.out F p q rfl
            have hFl : F.length ≤ 128 := by have := HLE.out; simp at this; omega
            have ho := HOW.out
            have hfl : (F ++ [(p, q)]).length = F.length + 1 := by simp
            obtain ⟨g6, cp, rfl, _, _, _⟩ := own_open ho hp
            rw [hfl] at ho
            obtain ⟨hgg, c0, c1, f1, hfin⟩ := last_span (R := F) (p := p) (q := q) (cap := cp) (g := g6) (by rw [hfl]; exact ho)
            have HFIN : Hid _ := hfin
            have HBF : Hid (Below w.heap.size w ((wr.setCell ⟨g6, F.length * 2 + 1, none⟩ (.int .i64 ((q + 1 : Nat) : Int))))) := HB.out.setCell hgg _
            have HON : Hid (wr.ownsRow w.heap.size 41 2 (.slice (some ⟨g6, 0, none⟩) (F.length + 1) cp) (F ++ [(p, q)]).length (cellsOfSpans (F ++ [(p, q)]))) := by show wr.ownsRow _ _ _ _ _ _; rw [hfl]; exact ho
            have hwp : IntKind.i64.wrap ((p : Int) + (q : Int)) = ((p + q : Nat) : Int) := by rw [IntKind.wrap_i64]; omega
            have hq128 : (q : Int) ≤ 128 := by have := HLEN.out (p, q) (by simp); simp only at this; omega
            have hF0 : (0 : Int) ≤ (F.length : Int) := by omega
            have hF1 : (F.length : Int) < ((F.length + 1 : Nat) : Int) := by omega
            have HHLE : Hid (F.length + 1 ≤ k) := by show F.length + 1 ≤ k; have := HLE.out; simpa using this
            rw [hfl]
            have HFL : Hid ((F ++ [(p, q)]).length = F.length + 1) := hfl
            clear ho hfin hgg hfl hp
            cases hi : inGapB l A k with
            | true =>
              rw [hi] at HS
              have HSB : Hid (gapsK l A (k + 1) = F ++ [(p, q + 1)]) := by
                show gapsK l A (k + 1) = F ++ [(p, q + 1)]
                rw [← bump_snoc]; exact HS.out
              have hpe : p + q = g := hiff.2 hi
              have heq : (((p + q : Nat) : Int) == (g : Int)) = true := by rw [hpe]; simp
              clear hi hiff hpe hpq
              go_wp2_with fail
              refine (HC.out _).mono ?_
              rintro e w' ⟨rfl, rfl⟩
              go_wp2
              go_quiet (fail)
              go_wp2
              go_roundw
              case rel => exact ⟨k + 1, by omega, by have := HG.out; go_num, by rw [HSB.out]; exact HFIN.out, ⟨HBF.out.os, HBF.out.tape, HBF.out.output, HBF.out.size, HBF.out.block⟩⟩
              case measure => simp [intOf]; omega
            | false =>
              rw [hi] at HS
              have HSB : Hid (gapsK l A (k + 1) = F ++ [(p, q)] ++ [(g, 1)]) := HS.out
              have hpe : ¬ p + q = g := fun e => by have := hiff.1 e; rw [hi] at this; cases this
              have heq : (((p + q : Nat) : Int) == (g : Int)) = false := by simp; omega
              clear hi hiff hpe hpq
              go_wp2_with fail
              refine (HC.out _).mono ?_
              rintro e w' ⟨rfl, rfl⟩
              go_wp2
              go_quiet (fail)
              go_wp2_with (at_builtin; refine wpList_pushS _ rfl _ _ rfl w.heap.size _ (F ++ [(p, q)]) g 1 HON.out rfl rfl (by simp; omega) HB.out.size ?_; intro g7 cp7 w6 hown6 hb6 hs6)
              rw [HFL.out] at hown6
              have HO6 : Hid _ := hown6
              have HB6 : Hid (Below w.heap.size w w6) := HB.out.trans ⟨hb6.os, hb6.tape, hb6.output, hb6.size, hb6.block⟩
              clear hown6 hb6 hs6
              go_roundw
              case rel => exact ⟨k + 1, by omega, by have := HG.out; go_num, by rw [HSB.out]; exact HO6.out, HB6.out⟩
              case measure => simp [intOf]; omega
          · have hR : R = [] := List.length_eq_zero_iff.1 (by omega)
            have hig : inGapB l A k = false := by
              cases h : inGapB l A k with
              | false => rfl
              | true => exact absurd (HPOS.out h) hp
            rw [hig] at HS
            subst hR
            have HSB : Hid (gapsK l A (k + 1) = [] ++ [(g, 1)]) := HS.out
            clear hig hp
            have ho := HOW.out
            obtain ⟨ad, cp, rfl⟩ : ∃ ad cp, _ = Value.slice ad 0 cp := by
              rcases ho.2 with ⟨h, _⟩ | ⟨g', cap', _, h, _⟩
              · exact ⟨_, _, h⟩
              · exact ⟨_, _, h⟩
            have HON : Hid (wr.ownsRow w.heap.size 41 2 (.slice ad 0 cp) ([] : List (Nat × Nat)).length (cellsOfSpans [])) := ho
            clear ho
            go_wp2_with fail
            refine (HC.out _).mono ?_
            rintro e w' ⟨rfl, rfl⟩
            go_wp2
            go_quiet (fail)
            go_wp2_with (at_builtin; refine wpList_pushS _ rfl _ _ rfl w.heap.size _ [] g 1 HON.out rfl rfl (by simp) HB.out.size ?_; intro g7 cp7 w6 hown6 hb6 hs6)
            have HO6 : Hid _ := hown6
            have HB6 : Hid (Below w.heap.size w w6) := HB.out.trans ⟨hb6.os, hb6.tape, hb6.output, hb6.size, hb6.block⟩
            clear hown6 hb6 hs6
            go_roundw
            case rel => exact ⟨k + 1, by omega, by have := HG.out; go_num, by rw [HSB.out]; exact HO6.out, HB6.out⟩
            case measure => simp [intOf]; omega
      · have hk2 : k = N := by omega
        subst hk2
        have e4 : ¬ ((A + k : Nat) : Int) < ((A + k : Nat) : Int) := by omega
        go_wp2
        go_ret
        exact ⟨_, rfl, by rw [HE.out]; exact HOW.out, HB.out⟩
end Go.Proofs.Ytkckhklllcggeaa.lb
