/-
  Places that are planned: each was free when it was planned, and lies in data.
-/
import Derived.Test.YtomlogkbndmaaaaPlanMath
namespace Go.Proofs.Ytomlogkbndmaaaa.pl
open Go.RowKit lb kinds obj img

theorem find_at (m : ByteArray) (a b n : Int) (h : ¬ findOf m a b n < 0) : ∃ t q : Nat, n = (q : Int) ∧ findOf m a b n = (t : Int) ∧ takeOk m (t : Int) (q : Int) = true ∧ a ≤ (t : Int) ∧ (t : Int) + (q : Int) ≤ b ∧ t + q ≤ 128 := by
  unfold findOf at h ⊢
  by_cases hc : (mapOk m && rangeB a b && (decide (1 ≤ n) && decide (n ≤ 128))) = true
  · rw [if_pos hc] at h ⊢
    rw [Bool.and_eq_true] at hc
    obtain ⟨A, N, rfl, rfl, h128, hm, e1, e2⟩ := yes_nat hc.1
    have hn : 1 ≤ n ∧ n ≤ 128 := by simpa using hc.2
    obtain ⟨q, rfl⟩ := Int.eq_ofNat_of_zero_le (by omega : 0 ≤ n)
    rw [e1, e2, Int.toNat_natCast] at h ⊢
    have hf := findG_first m.data.toList A N q (by omega)
    rcases hf with ⟨t, h1, h2, h3, h4, h5⟩ | ⟨h1, _⟩
    · have hr : runOkB (t : Int) (q : Int) = true := by
        unfold runOkB
        simp
        omega
      exact ⟨t, q, rfl, h1, by rw [takeOk, hm, hr]; simpa using h4, by omega, by omega, by omega⟩
    · rw [h1] at h; omega
  · rw [if_neg hc] at h
    omega
/-- What was planned, place by place. -/
theorem plan_steps (n1 n2 : Int) (xs : List ByteArray) (ts : List Int) (m : ByteArray) (n : Nat) {q : ByteArray} {l : List Int} (h : planK n1 n2 xs ts m n = some (q, l)) : ∀ k, k < n → ∃ (qk : ByteArray) (t u : Nat), planK n1 n2 xs ts m k = some (qk, l.take k) ∧ l.getD k 0 = (t : Int) ∧ runOf (kd xs (ts.getD k 0)) = (u : Int) ∧ takeOk qk (t : Int) (u : Int) = true ∧ 4 + n2 ≤ (t : Int) ∧ (t : Int) + (u : Int) ≤ n1 ∧ t + u ≤ 128 ∧ planK n1 n2 xs ts m (k + 1) = some (turned qk (t : Int) (u : Int), l.take (k + 1)) := by
  induction n generalizing q l with
  | zero => intro k hk; omega
  | succ n ih =>
    have hlen := planK_len n1 n2 xs ts m (n + 1) h
    have h0 := h
    rw [planK] at h
    cases hp : planK n1 n2 xs ts m n with
    | none => rw [hp] at h; cases h
    | some p =>
      obtain ⟨q', l'⟩ := p
      have hlen' := planK_len n1 n2 xs ts m n hp
      rw [hp] at h
      simp only at h
      split at h
      · cases h
      · rename_i hneg
        have e2 := (Prod.mk.inj (Option.some.inj h)).2
        have e1 := (Prod.mk.inj (Option.some.inj h)).1
        obtain ⟨t, u, f1, f2, f3, f4, f5, f6⟩ := find_at q' (4 + n2) n1 (runOf (kd xs (ts.getD n 0))) hneg
        rw [f2] at e1 e2
        rw [f1] at e1
        intro k hk
        by_cases e : k = n
        · subst e
          refine ⟨q', t, u, ?_, ?_, f1, f3, f4, f5, f6, ?_⟩
          · rw [hp, ← e2, List.take_append_of_le_length (by omega), List.take_of_length_le (by omega)]
          · rw [← e2, List.getD_eq_getElem?_getD, ← hlen']; simp
          · rw [h0, ← e1, List.take_of_length_le (by omega)]
        · obtain ⟨qk, t', u', g1, g2, g3, g4, g5, g6, g7, g8⟩ := ih hp k (by omega)
          have ht : l.take k = l'.take k := by rw [← e2, List.take_append_of_le_length (by omega)]
          have ht2 : l.take (k + 1) = l'.take (k + 1) := by rw [← e2, List.take_append_of_le_length (by omega)]
          have hg : l.getD k 0 = l'.getD k 0 := by
            rw [← e2]
            simp only [List.getD_eq_getElem?_getD, List.getElem?_append_left (show k < l'.length by omega)]
          exact ⟨qk, t', u', by rw [ht]; exact g1, by rw [hg]; exact g2, g3, g4, g5, g6, g7, by rw [ht2]; exact g8⟩
theorem plan_nil (n1 n2 n3 : Int) (xs : List ByteArray) (m : ByteArray) : planV n1 n2 n3 xs m [] = [] := by
  unfold planV
  split
  · rfl
  · rfl
theorem plan_true {n1 n2 n3 : Int} {xs : List ByteArray} {m : ByteArray} {ts : List Int} (h : planB n1 n2 n3 xs m ts = true) : ∃ q, planK n1 n2 xs ts m ts.length = some (q, planV n1 n2 n3 xs m ts) ∧ configOk n1 n2 n3 xs = true ∧ mapOk m = true ∧ allIn xs.length ts ts.length = true := by
  unfold planB at h
  rw [Bool.and_eq_true] at h
  have hp := h.1
  have hpp := hp
  unfold planPre at hpp
  rw [Bool.and_eq_true, Bool.and_eq_true, Bool.and_eq_true] at hpp
  cases hk : planK n1 n2 xs ts m ts.length with
  | none => rw [hk] at h; simp at h
  | some p =>
    obtain ⟨q, l⟩ := p
    refine ⟨q, ?_, hpp.1, hpp.2.1, hpp.2.2.2⟩
    unfold planV
    rw [if_pos hp, hk]
    rfl
end Go.Proofs.Ytomlogkbndmaaaa.pl
