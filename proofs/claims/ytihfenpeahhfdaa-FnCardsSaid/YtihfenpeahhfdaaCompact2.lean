/-
  slices.Compact at whole numbers, walked over a row that the call owns; the lines of a set, by the program.
-/
import Derived.Test.YtihfenpeahhfdaaCompact
import Derived.Laws.OwnMore
namespace Go.Proofs.Ytihfenpeahhfdaa.ints
open Go.RowKit inr

theorem row_at {w : World} {base g n cap : Nat} {A : List Int} (h : w.ownsRow base 2 1 (.slice (some ⟨g, 0, none⟩) n cap) n (A.map (Value.int .i64))) (i : Nat) (hi : i < n) : w.cell? ⟨g, i, none⟩ = some (.int .i64 (A.getD i 0)) := by
  have hl : A.length = n := by have := h.1; simpa using this
  rw [h.cellAt i (by omega), List.getElem?_map, List.getElem?_eq_getElem (by omega), ← getD_intI A i (by omega)]
  rfl
theorem row_put {w : World} {base g n cap : Nat} {A : List Int} (h : w.ownsRow base 2 1 (.slice (some ⟨g, 0, none⟩) n cap) n (A.map (Value.int .i64))) (i : Nat) (x : Int) : (w.setCell ⟨g, i, none⟩ (.int .i64 x)).ownsRow base 2 1 (.slice (some ⟨g, 0, none⟩) n cap) n ((A.set i x).map (Value.int .i64)) := by
  have h1 := (h.stored i (.int .i64 x)).1
  rw [← List.map_set] at h1
  exact h1
theorem row_wipe (m : Nat) : ∀ {w : World} {base g n cap : Nat} {A : List Int} (o : Nat), base ≤ g → w.ownsRow base 2 1 (.slice (some ⟨g, 0, none⟩) n cap) n (A.map (Value.int .i64)) → ∃ A' : List Int, A'.take o = A.take o ∧ (w.setCells g o (List.replicate m (.int .i64 0))).ownsRow base 2 1 (.slice (some ⟨g, 0, none⟩) n cap) n (A'.map (Value.int .i64)) ∧ Below base w (w.setCells g o (List.replicate m (.int .i64 0))) := by
  induction m with
  | zero => intro w base g n cap A o _ h; exact ⟨A, rfl, h, Below.refl _ _⟩
  | succ m ih =>
    intro w base g n cap A o hg h
    obtain ⟨A', h1, h2, h3⟩ := ih (o + 1) hg (row_put h o 0)
    refine ⟨A', ?_, h2, ((Below.refl base w).setCell (p := ⟨g, o, none⟩) hg _).trans h3⟩
    have h4 := congrArg (List.take o) h1
    rw [List.take_take, List.take_take, Nat.min_eq_left (by omega)] at h4
    rw [h4, List.take_set_of_le (Nat.le_refl _)]
theorem row_short {w : World} {base g n cap : Nat} {A : List Int} (h : w.ownsRow base 2 1 (.slice (some ⟨g, 0, none⟩) n cap) n (A.map (Value.int .i64))) (m : Nat) (hm : m ≤ n) : w.ownsRow base 2 1 (.slice (some ⟨g, 0, none⟩) m cap) m ((A.take m).map (Value.int .i64)) := by
  have hl : A.length = n := by have := h.1; simpa using this
  rcases h.2 with ⟨h', _⟩ | ⟨g', cap', cur, h', hb, hg, hnc, hcm, hcs, htake⟩
  · simp at h'
  · simp only [Value.slice.injEq, Option.some.injEq, Addr.mk.injEq, and_true, true_and] at h'
    obtain ⟨rfl, rfl⟩ := h'
    refine ⟨by simp; omega, .inr ⟨g, cap, cur, rfl, hb, hg, by omega, hcm, hcs, ?_⟩⟩
    have h2 := congrArg (List.take m) htake
    rw [List.take_take, Nat.min_eq_left (by omega), ← List.map_take] at h2
    rw [Nat.mul_one]
    exact h2
theorem compK_one (ys : List Int) (h : ys.length < 2) : compK ys ys.length = ys := by
  rw [compK_all ys ys.length (Nat.le_refl _) (fun j h1 h2 => by omega), List.take_length]
theorem zeroInt64 (w : World) : (zeroValue 2).run Try.prog w = .ok (.int .i64 0) w := by rfl
set_option maxHeartbeats 2000000 in
set_option maxRecDepth 20000 in
theorem compact_row (w : World) (base g n cap : Nat) (ys : List Int) (hl : ys.length = n) (hn : n ≤ 1048576) (hown : w.ownsRow base 2 1 (.slice (some ⟨g, 0, none⟩) n cap) n (ys.map (Value.int .i64))) (hbg : base ≤ g) (hnc : n ≤ cap) :
    Calls Try.prog 51 #[.slice (some ⟨g, 0, none⟩) n cap] w fun e w' => ∃ v, e = .returned v ∧ w'.ownsRow base 2 1 v (compK ys n).length ((compK ys n).map (Value.int .i64)) ∧ Below base w w' := by
  have HO : Hid (w.ownsRow base 2 1 (.slice (some ⟨g, 0, none⟩) n cap) n (ys.map (Value.int .i64))) := hown
  have HL : Hid (ys.length = n) := hl
  have HBG : Hid (base ≤ g) := hbg
  have HALL : Hid ((∀ j, 0 < j → j < n → ys.getD j 0 ≠ ys.getD (j - 1) 0) → compK ys n = ys) := fun h => by
    rw [compK_all ys n (by omega) h, ← hl, List.take_length]
  clear hown hl hbg
  by_cases h2 : n < 2
  · go_enter Try.func51, Try.ntmps51
    go_wp2
    go_ret
    refine ⟨_, rfl, ?_, Below.refl _ _⟩
    rw [HALL.out (fun j h1 h3 => by omega), HL.out]
    exact HO.out
  · go_enter Try.func51, Try.ntmps51
    go_wp2
    go_loopw [3] (fun i wr => ∃ j : Nat, j + 1 ≤ n ∧ i = .int .i64 ((j + 1 : Nat) : Int) ∧ (∀ i, 0 < i → i < j + 1 → ys.getD i 0 ≠ ys.getD (i - 1) 0) ∧ wr.ownsRow base 2 1 (.slice (some ⟨g, 0, none⟩) n cap) n (ys.map (Value.int .i64)) ∧ Below base w wr) (fun i _ => n - (intOf i).toNat)
    case atStart => exact ⟨0, by omega, rfl, fun i h1 h3 => by omega, HO.out, Below.refl _ _⟩
    case round =>
      obtain ⟨j, hk, rfl, hall, hown, hb⟩ := hrel
      have HA : Hid (∀ i, 0 < i → i < j + 1 → ys.getD i 0 ≠ ys.getD (i - 1) 0) := hall
      have HOW : Hid (wr.ownsRow base 2 1 (.slice (some ⟨g, 0, none⟩) n cap) n (ys.map (Value.int .i64))) := hown
      have HB : Hid (Below base w wr) := hb
      clear hall hown hb
      by_cases hlt : j + 1 < n
      · have c1 := row_at HOW.out (j + 1) hlt
        have c0 := row_at HOW.out j (by omega)
        have HX : Hid (ys.getD (j + 1) 0 = ys.getD (j + 1) 0) := rfl
        obtain ⟨x, hx⟩ : ∃ x, x = ys.getD (j + 1) 0 := ⟨_, rfl⟩
        obtain ⟨y, hy⟩ : ∃ y, y = ys.getD j 0 := ⟨_, rfl⟩
        rw [← hx] at c1
        rw [← hy] at c0
        have HXY : Hid (x = ys.getD (j + 1) 0 ∧ y = ys.getD j 0) := ⟨hx, hy⟩
        clear hx hy HX
        have hj0 : (0 : Int) ≤ ((j + 1 : Nat) : Int) := by omega
        have hj1 : ((j + 1 : Nat) : Int) - 1 = (j : Int) := by omega
        have hj2 : (j : Int) < (n : Int) := by omega
        have hj3 : ((j + 1 : Nat) : Int) < (n : Int) := by omega
        by_cases hdup : x = y
        · have he : (x == y) = true := by simpa using hdup
          have HD : Hid (ys.getD (j + 1) 0 = ys.getD j 0) := by
            show ys.getD (j + 1) 0 = ys.getD j 0
            rw [← HXY.out.1, ← HXY.out.2, hdup]
          clear hdup
          have HOd : Hid (∀ q, (wr.drewN q).ownsRow base 2 1 (.slice (some ⟨g, 0, none⟩) n cap) n (ys.map (Value.int .i64))) := fun q => HOW.out
          have HBd : Hid (∀ q, Below base w (wr.drewN q)) := fun n => ⟨HB.out.os, HB.out.tape, HB.out.output, HB.out.size, HB.out.block⟩
          go_wp2
          go_quiet (fail)
          go_wp2
          clear c0 c1 he hj0 hj1 hj2 hj3
          go_loopw [3, 5] (fun s3 s5 wq => ∃ (kk q : Nat) (A : List Int), s3 = .int .i64 (kk : Int) ∧ s5 = .int .i64 ((q + 1 : Nat) : Int) ∧ j + 1 + (q + 1) ≤ n ∧ Comp ys A (j + 1 + (q + 1)) kk ∧ wq.ownsRow base 2 1 (.slice (some ⟨g, 0, none⟩) n cap) n (A.map (Value.int .i64)) ∧ Below base w wq) (fun _ i _ => n - (intOf i).toNat)
          case atStart => exact ⟨j + 1, 0, ys, rfl, rfl, by omega, Comp.start (by omega) (by rw [HL.out]; omega) HD.out HA.out, HOd.out _, HBd.out _⟩
          case round =>
            obtain ⟨kk, q, A, rfl, rfl, hle, hI, hown, hb⟩ := hrel
            have HI : Hid (Comp ys A (j + 1 + (q + 1)) kk) := hI
            have HO2 : Hid (wr.ownsRow base 2 1 (.slice (some ⟨g, 0, none⟩) n cap) n (A.map (Value.int .i64))) := hown
            have HB2 : Hid (Below base w wr) := hb
            have hkk := hI.lt
            clear hI hown hb
            by_cases hlt2 : j + 1 + (q + 1) < n
            · have cm := row_at HO2.out (j + 1 + (q + 1)) hlt2
              have cp := row_at HO2.out (j + 1 + q) (by omega)
              have ck := row_at HO2.out kk (by omega)
              have fk := HO2.out.frozenAt kk
              rw [HI.out.rest (j + 1 + (q + 1)) (by omega) (by rw [HL.out]; omega)] at cm
              rw [HI.out.rest (j + 1 + q) (by omega) (by rw [HL.out]; omega)] at cp
              obtain ⟨u, hu⟩ : ∃ x, x = ys.getD (j + 1 + (q + 1)) 0 := ⟨_, rfl⟩
              obtain ⟨v, hv⟩ : ∃ y, y = ys.getD (j + 1 + q) 0 := ⟨_, rfl⟩
              rw [← hu] at cm
              rw [← hv] at cp
              generalize A.getD kk 0 = old at ck
              have HUV : Hid (u = ys.getD (j + 1 + (q + 1)) 0 ∧ v = ys.getD (j + 1 + q) 0) := ⟨hu, hv⟩
              clear hu hv
              have hq0 : (0 : Int) ≤ ((q + 1 : Nat) : Int) := by omega
              have hq1 : ((q + 1 : Nat) : Int) - 1 = (q : Int) := by omega
              have hq2 : (q : Int) < ((n - (j + 1) : Nat) : Int) := by omega
              have hq3 : ((q + 1 : Nat) : Int) < ((n - (j + 1) : Nat) : Int) := by omega
              have hq4 : (kk : Int) < (n : Int) := by omega
              have HOd : Hid (∀ p, (wr.drewN p).ownsRow base 2 1 (.slice (some ⟨g, 0, none⟩) n cap) n (A.map (Value.int .i64))) := fun p => HO2.out
              have HBd : Hid (∀ p, Below base w (wr.drewN p)) := fun p => ⟨HB2.out.os, HB2.out.tape, HB2.out.output, HB2.out.size, HB2.out.block⟩
              by_cases huv : u = v
              · have he : (u != v) = false := by simpa using huv
                have HE : Hid (ys.getD (j + 1 + (q + 1)) 0 = ys.getD (j + 1 + (q + 1) - 1) 0) := by
                  show ys.getD (j + 1 + (q + 1)) 0 = ys.getD (j + 1 + (q + 1) - 1) 0
                  rw [show j + 1 + (q + 1) - 1 = j + 1 + q by omega, ← HUV.out.1, ← HUV.out.2, huv]
                clear huv
                go_wp2
                go_quiet (fail)
                go_wp2
                go_roundw
                case rel => exact ⟨kk, q + 1, A, rfl, by go_num, by omega, HI.out.skip HE.out, HOd.out _, HBd.out _⟩
                case measure => simp [intOf]; omega
              · have he : (u != v) = true := by simpa using huv
                have HE : Hid (ys.getD (j + 1 + (q + 1)) 0 ≠ ys.getD (j + 1 + (q + 1) - 1) 0) := by
                  show ys.getD (j + 1 + (q + 1)) 0 ≠ ys.getD (j + 1 + (q + 1) - 1) 0
                  rw [show j + 1 + (q + 1) - 1 = j + 1 + q by omega, ← HUV.out.1, ← HUV.out.2]
                  exact huv
                have HW : Hid (Comp ys (A.set kk u) (j + 1 + (q + 1) + 1) (kk + 1)) := by
                  have := HI.out.keep (by rw [HL.out]; omega) HE.out
                  rw [← HUV.out.1] at this
                  exact this
                clear huv
                go_wp2
                go_quiet (fail)
                go_wp2
                go_roundw
                case rel => exact ⟨kk + 1, q + 1, A.set kk u, by go_num, by go_num, by omega, HW.out, row_put (HOd.out _) kk u, (HBd.out _).setCell (p := ⟨g, kk, none⟩) HBG.out _⟩
                case measure => simp [intOf]; omega
            · have hend : j + 1 + (q + 1) = n := by omega
              have hcl : ∀ ty, (Builtin.clear_ #[24] ty #[.slice (some ⟨g, kk, none⟩) (n - kk) (cap - kk)]).run Try.prog wr = .ok (.tuple #[]) (wr.setCells g kk (List.replicate (n - kk) (.int .i64 0))) :=
                fun ty => Lib.run_clear_slice wr _ _ ty _ Try.underlying24 zeroInt64 rfl rfl g kk _ _ (by omega) (fun i hi => by rw [row_at HO2.out (kk + i) (by omega)]; rfl) (fun i hi => HO2.out.frozenAt _)
              obtain ⟨A', hA, hOw, hBw⟩ := row_wipe (n - kk) kk HBG.out HO2.out
              have HA2 : Hid (A'.take kk = A.take kk) := hA
              have HO3 : Hid ((wr.setCells g kk (List.replicate (n - kk) (.int .i64 0))).ownsRow base 2 1 (.slice (some ⟨g, 0, none⟩) n cap) n (A'.map (Value.int .i64))) := hOw
              have HB3 : Hid (Below base w (wr.setCells g kk (List.replicate (n - kk) (.int .i64 0)))) := HB2.out.trans hBw
              clear hA hOw hBw
              generalize wr.setCells g kk (List.replicate (n - kk) (.int .i64 0)) = w3 at hcl HO3 HB3
              have hq3 : ¬ ((q + 1 : Nat) : Int) < ((n - (j + 1) : Nat) : Int) := by omega
              go_wp2
              go_ret
              have hI := HI.out
              rw [hend] at hI
              refine ⟨.slice (some ⟨g, 0, none⟩) kk cap, rfl, ?_, HB3.out⟩
              have h5 := row_short HO3.out kk (by omega)
              rw [HA2.out, hI.kept] at h5
              rw [← hI.size]
              exact h5
        · have he : (x == y) = false := by simpa using hdup
          have HALL2 : Hid (∀ i, 0 < i → i < j + 1 + 1 → ys.getD i 0 ≠ ys.getD (i - 1) 0) := fun i h1 h3 => by
            by_cases e : i = j + 1
            · subst e
              rw [show j + 1 - 1 = j by omega, ← HXY.out.1, ← HXY.out.2]
              exact hdup
            · exact HA.out i h1 (by omega)
          clear hdup
          have HOd : Hid (∀ q, (wr.drewN q).ownsRow base 2 1 (.slice (some ⟨g, 0, none⟩) n cap) n (ys.map (Value.int .i64))) := fun q => HOW.out
          have HBd : Hid (∀ q, Below base w (wr.drewN q)) := fun n => ⟨HB.out.os, HB.out.tape, HB.out.output, HB.out.size, HB.out.block⟩
          go_wp2
          go_quiet (fail)
          go_wp2
          go_roundw
          case rel => exact ⟨j + 1, by omega, by go_num, HALL2.out, HOd.out _, HBd.out _⟩
          case measure => simp [intOf]; omega
      · obtain rfl : n = j + 1 := by omega
        go_wp2
        go_ret
        refine ⟨_, rfl, ?_, HB.out⟩
        rw [HALL.out HA.out, HL.out]
        exact HOW.out
end Go.Proofs.Ytihfenpeahhfdaa.ints
