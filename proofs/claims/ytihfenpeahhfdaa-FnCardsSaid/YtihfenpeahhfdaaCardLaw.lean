/-
  Each word of a set lies in one of its lines, each line has one, and lines rise; whether a number is among others.
-/
import Derived.Test.YtihfenpeahhfdaaCards2
namespace Go.Proofs.Ytihfenpeahhfdaa.ints
open Go.RowKit inr

theorem comp_has (ys : List Int) (k : Nat) : ∀ i, i < k → ys.getD i 0 ∈ compK ys k := by
  induction k with
  | zero => intro i hi; omega
  | succ k ih =>
    intro i hi
    rw [compK]
    by_cases hq : 0 < k ∧ ys.getD k 0 = ys.getD (k - 1) 0
    · rw [if_pos hq]
      by_cases e : i = k
      · rw [e, hq.2]; exact ih (k - 1) (by omega)
      · exact ih i (by omega)
    · rw [if_neg hq]
      by_cases e : i = k
      · rw [e]; simp
      · exact List.mem_append_left _ (ih i (by omega))
theorem comp_of (ys : List Int) (k : Nat) : ∀ x ∈ compK ys k, ∃ i, i < k ∧ x = ys.getD i 0 := by
  induction k with
  | zero => intro x hx; simp [compK] at hx
  | succ k ih =>
    intro x hx
    rw [compK] at hx
    split at hx
    · obtain ⟨i, h1, h2⟩ := ih x hx
      exact ⟨i, by omega, h2⟩
    · rcases List.mem_append.1 hx with h | h
      · obtain ⟨i, h1, h2⟩ := ih x h
        exact ⟨i, by omega, h2⟩
      · simp at h
        exact ⟨k, by omega, by rw [h, List.getD_eq_getElem?_getD]⟩
theorem getD_app (l r : List Int) (j : Nat) (h : j < l.length) : (l ++ r).getD j 0 = l.getD j 0 := by
  simp only [List.getD_eq_getElem?_getD, List.getElem?_append_left h]
/-- Lines rise. -/
theorem comp_up (ys : List Int) (k : Nat) (hup : ∀ i, 0 < i → i < k → ys.getD (i - 1) 0 ≤ ys.getD i 0) : (∀ x ∈ compK ys k, 0 < k → x ≤ ys.getD (k - 1) 0) ∧ ∀ j, j + 1 < (compK ys k).length → (compK ys k).getD j 0 < (compK ys k).getD (j + 1) 0 := by
  induction k with
  | zero => exact ⟨fun x hx => by simp [compK] at hx, fun j hj => by simp [compK] at hj⟩
  | succ k ih =>
    obtain ⟨h1, h2⟩ := ih (fun i q1 q2 => hup i q1 (by omega))
    rw [compK]
    by_cases hq : 0 < k ∧ ys.getD k 0 = ys.getD (k - 1) 0
    · rw [if_pos hq]
      refine ⟨fun x hx _ => ?_, h2⟩
      rw [Nat.add_sub_cancel, hq.2]
      exact h1 x hx hq.1
    · rw [if_neg hq]
      have hlt : ∀ x ∈ compK ys k, x < ys.getD k 0 := fun x hx => by
        by_cases h0 : 0 < k
        · have e1 := h1 x hx h0
          have e2 := hup k h0 (by omega)
          have e3 : ys.getD k 0 ≠ ys.getD (k - 1) 0 := fun q => hq ⟨h0, q⟩
          omega
        · have : k = 0 := by omega
          subst this
          simp [compK] at hx
      refine ⟨fun x hx _ => ?_, fun j hj => ?_⟩
      · rw [Nat.add_sub_cancel]
        rcases List.mem_append.1 hx with h | h
        · have := hlt x h; omega
        · simp at h
          rw [List.getD_eq_getElem?_getD]
          omega
      · rw [List.length_append] at hj
        simp only [List.length_cons, List.length_nil] at hj
        by_cases hl : j + 1 < (compK ys k).length
        · rw [getD_app _ _ j (by omega), getD_app _ _ (j + 1) hl]
          exact h2 j hl
        · have hje : j + 1 = (compK ys k).length := by omega
          have e1 : (compK ys k ++ [ys.getD k 0]).getD (j + 1) 0 = ys.getD k 0 := by
            rw [hje, List.getD_eq_getElem?_getD]; simp
          have e2 : (compK ys k ++ [ys.getD k 0]).getD j 0 = (compK ys k).getD j 0 := getD_app _ _ j (by omega)
          rw [e1, e2, ← getD_intI _ j (by omega)]
          exact hlt _ (List.getElem_mem _)
theorem cards_know (xs : List Int) (hr : riseN xs 1023 xs.length = true) : (∀ i, i < xs.length → xs.getD i 0 / 8 ∈ cardsS xs) ∧ (∀ x ∈ cardsS xs, x ∈ xs.map (· / 8)) ∧ (∀ j, j + 1 < (cardsS xs).length → (cardsS xs).getD j 0 < (cardsS xs).getD (j + 1) 0) := by
  have he : cardsS xs = compK (xs.map (· / 8)) xs.length := by
    unfold cardsS
    rw [if_pos hr, (cards_comp xs xs.length (Nat.le_refl _) hr).1]
  rw [he]
  refine ⟨fun i hi => ?_, fun x hx => ?_, ?_⟩
  · have h := comp_has (xs.map (· / 8)) xs.length i hi
    rw [eights_at xs i hi] at h
    exact h
  · obtain ⟨i, h1, h2⟩ := comp_of _ _ x hx
    rw [h2, ← getD_intI _ i (by simpa using h1)]
    exact List.getElem_mem _
  · refine (comp_up (xs.map (· / 8)) xs.length (fun i h1 h2 => ?_)).2
    rw [eights_at xs i h2, eights_at xs (i - 1) (by omega)]
    have h3 : riseN xs 1023 (i + 1) = true := by
      cases e : riseN xs 1023 (i + 1) with
      | true => rfl
      | false => rw [riseN_le xs 1023 (i + 1) xs.length (by omega) e] at hr; cases hr
    rw [riseN, Bool.and_eq_true, Bool.and_eq_true] at h3
    have h4 := of_decide_eq_true h3.2.1
    obtain ⟨j, rfl⟩ : ∃ j, i = j + 1 := ⟨i - 1, by omega⟩
    rw [prevI] at h4
    rw [Nat.add_sub_cancel]
    omega
set_option maxHeartbeats 1000000 in
theorem has_any (w : World) (a : Option Addr) (n cap : Nat) (l : List Int) (r : Int) (hx : l.length = n) (hn : n ≤ 1048576) (hl : Nums w a l) (hin : r ∈ l) :
    Calls Try.prog 17 #[.slice a n cap, .int .i64 r] w fun e w' => e = .returned (.bool true) ∧ w' = w := by
  have HN : Hid (Nums w a l) := hl
  have HL : Hid (l.length = n) := hx
  have HIN : Hid (∃ i, i < n ∧ l.getD i 0 = r) := by
    obtain ⟨i, hi, e⟩ := List.getElem_of_mem hin
    exact ⟨i, by omega, by rw [← getD_intI l i hi]; exact e⟩
  clear hl hx hin
  go_enter Try.func17, Try.ntmps17
  go_wp2
  go_loopw [5] (fun i wr => ∃ k : Nat, k ≤ n ∧ i = .int .i64 (k : Int) ∧ (∀ j, j < k → l.getD j 0 ≠ r) ∧ w = wr) (fun i _ => n - (intOf i).toNat)
  case atStart => exact ⟨0, Nat.zero_le _, rfl, fun j hj => by omega, rfl⟩
  case round =>
    obtain ⟨k, hk, rfl, hno, rfl⟩ := hrel
    have HNO : Hid (∀ j, j < k → l.getD j 0 ≠ r) := hno
    clear hno
    by_cases hlt : k < n
    · have hlti : (k : Int) < (n : Int) := by omega
      have hk0 : (0 : Int) ≤ (k : Int) := by omega
      obtain ⟨b, off, rfl, c0⟩ := HN.out k (by have := HL.out; omega)
      rw [getD_intI l k (by have := HL.out; omega)] at c0
      have HE : Hid (l.getD k 0 = l.getD k 0) := rfl
      by_cases hx : l.getD k 0 = r
      · rw [hx] at c0
        have he : (r == r) = true := by simp
        clear hx
        go_wp2
        go_ret
        exact ⟨rfl, rfl⟩
      · have HNO2 : Hid (∀ j, j < k + 1 → l.getD j 0 ≠ r) := fun j hj => by
          by_cases e : j = k
          · rw [e]; exact hx
          · exact HNO.out j (by omega)
        generalize l.getD k 0 = x at c0 hx
        have he : (x == r) = false := by simpa using hx
        clear hx
        go_wp2
        go_roundw
        case rel => exact ⟨k + 1, by omega, by go_num, HNO2.out, trivial⟩
        case measure => simp [intOf]; omega
    · exfalso
      obtain ⟨i, h1, h2⟩ := HIN.out
      exact HNO.out i (by omega) h2
end Go.Proofs.Ytihfenpeahhfdaa.ints
