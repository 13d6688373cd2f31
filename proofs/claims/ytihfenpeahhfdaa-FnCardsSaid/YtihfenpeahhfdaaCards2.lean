/-
  The lines of a set, by the program, are those that the specification tells.
-/
import Derived.Test.YtihfenpeahhfdaaCompact2
namespace Go.Proofs.Ytihfenpeahhfdaa.ints
open Go.RowKit inr

theorem seekI_none (r : Int) (l : List Int) (k : Nat) : seekI r l k = -1 ↔ ∀ i, i < k → l.getD i 0 ≠ r := by
  induction k with
  | zero => exact ⟨fun _ i hi => by omega, fun _ => rfl⟩
  | succ k ih =>
    rw [seekI]
    rcases seekI_in r l k with h | h
    · rw [if_neg (by omega)]
      constructor
      · intro hk i hi
        by_cases e : i = k
        · subst e
          intro q
          rw [if_pos q] at hk
          omega
        · exact (ih.1 h) i (by omega)
      · intro hk
        rw [if_neg (hk k (by omega))]
    · rw [if_pos h.1]
      constructor
      · intro q; omega
      · intro hk
        exact ih.2 (fun i hi => hk i (by omega))
theorem seekI_mem (r : Int) (l : List Int) : seekI r l l.length < 0 ↔ r ∉ l := by
  have h0 : seekI r l l.length < 0 ↔ seekI r l l.length = -1 := by
    rcases seekI_in r l l.length with h | h
    · exact ⟨fun _ => h, fun _ => by omega⟩
    · exact ⟨fun q => by omega, fun q => by omega⟩
  rw [h0, seekI_none]
  constructor
  · intro h q
    obtain ⟨i, hi, e⟩ := List.getElem_of_mem q
    exact h i hi (by rw [← getD_intI l i hi]; exact e)
  · intro h i hi q
    apply h
    rw [← q, ← getD_intI l i hi]
    exact List.getElem_mem hi
theorem eights_at (xs : List Int) (k : Nat) (hk : k < xs.length) : (xs.map (· / 8)).getD k 0 = xs.getD k 0 / 8 := by
  rw [← getD_intI _ k (by simpa using hk), ← getD_intI xs k hk]
  simp
theorem cards_comp (xs : List Int) (k : Nat) (hk : k ≤ xs.length) (hr : riseN xs 1023 k = true) : cardsK xs k = compK (xs.map (· / 8)) k ∧ (0 < k → (xs.map (· / 8)).getD (k - 1) 0 ∈ compK (xs.map (· / 8)) k) ∧ ∀ x ∈ compK (xs.map (· / 8)) k, x ≤ (xs.map (· / 8)).getD (k - 1) 0 := by
  induction k with
  | zero => exact ⟨rfl, fun h => by omega, fun x hx => by simp [compK] at hx⟩
  | succ k ih =>
    rw [riseN, Bool.and_eq_true, Bool.and_eq_true] at hr
    obtain ⟨h1, h2, h3⟩ := hr
    obtain ⟨ha, hb, hc⟩ := ih (by omega) h1
    have hup : 0 < k → (xs.map (· / 8)).getD (k - 1) 0 ≤ (xs.map (· / 8)).getD k 0 := fun h0 => by
      rw [eights_at xs k (by omega), eights_at xs (k - 1) (by omega)]
      have h4 := of_decide_eq_true h2
      obtain ⟨j, rfl⟩ : ∃ j, k = j + 1 := ⟨k - 1, by omega⟩
      rw [prevI] at h4
      rw [Nat.add_sub_cancel]
      omega
    have he : cardsK xs (k + 1) = if seekI ((xs.map (· / 8)).getD k 0) (compK (xs.map (· / 8)) k) (compK (xs.map (· / 8)) k).length < 0 then compK (xs.map (· / 8)) k ++ [(xs.map (· / 8)).getD k 0] else compK (xs.map (· / 8)) k := by
      rw [cardsK, ha, eights_at xs k (by omega)]
    rw [he, compK, Nat.add_sub_cancel]
    generalize (xs.map (· / 8)).getD k 0 = y at hup ⊢
    generalize (xs.map (· / 8)).getD (k - 1) 0 = z at hup hb hc ⊢
    have hz : k = 0 → compK (xs.map (· / 8)) k = [] := by rintro rfl; rfl
    generalize compK (xs.map (· / 8)) k = C at hb hc hz ⊢
    by_cases hq : 0 < k ∧ y = z
    · have hm : y ∈ C := by rw [hq.2]; exact hb hq.1
      rw [if_pos hq, if_neg (fun h => (seekI_mem y C).1 h hm)]
      exact ⟨rfl, fun _ => hm, fun x hx => by rw [hq.2]; exact hc x hx⟩
    · have hm : y ∉ C := fun h => by
        by_cases h0 : 0 < k
        · have := hup h0
          have := hc y h
          exact hq ⟨h0, by omega⟩
        · rw [hz (by omega)] at h
          cases h
      rw [if_neg hq, if_pos ((seekI_mem y C).2 hm)]
      refine ⟨rfl, fun _ => by simp, fun x hx => ?_⟩
      rcases List.mem_append.1 hx with h | h
      · by_cases h0 : 0 < k
        · have := hup h0
          have := hc x h
          omega
        · rw [hz (by omega)] at h
          cases h
      · simp at h; omega
theorem cardsS_len (xs : List Int) (h : xs.length ≤ 1048576) : (cardsS xs).length ≤ 1048576 := by
  unfold cardsS
  split
  · have := cardsK_len xs xs.length
    omega
  · simp
theorem compact_nil (w : World) : Calls Try.prog 51 #[.slice none 0 0] w fun e w' => e = .returned (.slice none 0 0) ∧ w = w' := by
  go_enter Try.func51, Try.ntmps51
  go_wp2
  go_ret
  exact ⟨rfl, rfl⟩
theorem compact_any (w : World) (base : Nat) (v : Value) (ys : List Int) (hn : ys.length ≤ 1048576) (hown : w.ownsRow base 2 1 v ys.length (ys.map (Value.int .i64))) :
    Calls Try.prog 51 #[v] w fun e w' => ∃ v, e = .returned v ∧ w'.ownsRow base 2 1 v (compK ys ys.length).length ((compK ys ys.length).map (Value.int .i64)) ∧ Below base w w' := by
  have h0 := hown
  rcases hown.2 with ⟨rfl, hz⟩ | ⟨g, cap, cur, rfl, hb, hg, hc, hcm, hcs, ht⟩
  · refine (compact_nil w).mono ?_
    rintro e w' ⟨rfl, rfl⟩
    rw [hz]
    exact ⟨_, rfl, ⟨rfl, .inl ⟨rfl, rfl⟩⟩, Below.refl _ _⟩
  · exact compact_row w base g ys.length cap ys rfl hn h0 hb hc
set_option maxHeartbeats 1000000 in
set_option maxRecDepth 20000 in
theorem impl_cards (w : World) (a : Option Addr) (cap : Nat) (xs : List Int) (hn : xs.length ≤ 1048576) (hl : Nums w a xs) :
    Calls Try.prog 20 #[.slice a xs.length cap] w fun e w' => ∃ v, e = .returned v ∧ w'.ownsRow w.heap.size 2 1 v (cardsS xs).length ((cardsS xs).map (Value.int .i64)) ∧ Below w.heap.size w w' := by
  have HN : Hid (∀ w', Below w.heap.size w w' → Nums w' a xs) := fun w' h => hl.below h
  have HOK : Hid (∀ w', w' = w → Calls _ _ _ w' _) := fun w' q => impl_setok w' a cap xs hn (q ▸ hl)
  have HIN : Hid (riseN xs 1023 xs.length = true → ∀ k, k < xs.length → 0 ≤ xs.getD k 0 ∧ xs.getD k 0 ≤ 1023) := fun h k hk => riseN_in xs 1023 h k hk
  have HD : Hid (cardsS xs = if riseN xs 1023 xs.length = true then cardsK xs xs.length else []) := rfl
  have HCC : Hid (riseN xs 1023 xs.length = true → cardsK xs xs.length = compK (xs.map (· / 8)) xs.length) := fun h => (cards_comp xs xs.length (Nat.le_refl _) h).1
  generalize cardsS xs = res at HD ⊢
  clear hl
  cases hr : riseN xs 1023 xs.length with
  | false =>
    rw [hr] at HOK HD
    have HR : Hid (res = []) := by show res = []; rw [HD.out]; rfl
    clear hr HD HCC
    go_enter Try.func20, Try.ntmps20
    go_wp2_with fail
    refine (HOK.out w rfl).mono ?_
    rintro e w2 ⟨rfl, rfl⟩
    go_wp2
    go_ret
    refine ⟨.slice none 0 0, rfl, ?_, Below.refl _ _⟩
    rw [HR.out]
    exact ⟨rfl, .inl ⟨rfl, rfl⟩⟩
  | true =>
    rw [hr] at HOK HD
    have HR : Hid (res = compK (xs.map (· / 8)) xs.length) := by show res = _; rw [HD.out, ← HCC.out hr]; rfl
    have HI2 : Hid (∀ k, k < xs.length → 0 ≤ xs.getD k 0 ∧ xs.getD k 0 ≤ 1023) := HIN.out hr
    clear hr HD HIN HCC
    go_enter Try.func20, Try.ntmps20
    go_wp2_with fail
    refine (HOK.out w rfl).mono ?_
    rintro e w2 ⟨rfl, rfl⟩
    go_wp2
    go_loopw [3, 11] (fun v i wr => ∃ k : Nat, k ≤ xs.length ∧ i = .int .i64 (k : Int) ∧ wr.ownsRow w.heap.size 2 1 v ((xs.take k).map (· / 8)).length (((xs.take k).map (· / 8)).map (Value.int .i64)) ∧ Below w.heap.size w wr) (fun _ i _ => xs.length - (intOf i).toNat)
    case atStart => exact ⟨0, Nat.zero_le _, rfl, ⟨rfl, .inl ⟨rfl, rfl⟩⟩, Below.refl _ _⟩
    case round =>
      obtain ⟨k, hk, rfl, hown, hb⟩ := hrel
      by_cases hlt : k < xs.length
      · have HO : Hid (wr.ownsRow w.heap.size 2 1 u3 ((xs.take k).map (· / 8)).length (((xs.take k).map (· / 8)).map (Value.int .i64))) := hown
        have HB : Hid (Below w.heap.size w wr) := hb
        have HS : Hid ((xs.take (k + 1)).map (· / 8) = (xs.take k).map (· / 8) ++ [xs.getD k 0 / 8]) := by
          show (xs.take (k + 1)).map (· / 8) = _
          rw [List.take_succ_eq_append_getElem hlt, List.map_append, getD_intI xs k hlt]
          rfl
        have HLK : Hid (((xs.take k).map (· / 8)).length ≤ 1048576) := by show ((xs.take k).map (· / 8)).length ≤ _; simp; omega
        clear hown hb
        have hlti : (k : Int) < (xs.length : Int) := by omega
        have hk0 : (0 : Int) ≤ (k : Int) := by omega
        obtain ⟨b2, off, rfl, c0⟩ := HN.out wr HB.out k hlt
        rw [getD_intI xs k hlt] at c0
        obtain ⟨hx0, hx1⟩ := HI2.out k hlt
        generalize xs.getD k 0 = x at c0 HS hx0 hx1
        generalize (xs.take k).map (· / 8) = L at HO HS HLK
        obtain ⟨q, rfl⟩ := Int.eq_ofNat_of_zero_le hx0
        clear hx0
        go_wp2_with (refine wpList_push wr (by rfl) _ _ (by rfl) w.heap.size u3 L ((q : Int) / 8) HO.out (by rfl) (by rfl) HLK.out HB.out.size ?_; intro g2 c2 w6 hown6 hb6 hB6; have HO6 : Hid (_) := hown6; have HB6 : Hid (Below w.heap.size w w6) := HB.out.trans hb6; clear hown6 hb6 hB6)
        go_roundw
        case rel => exact ⟨k + 1, by omega, by go_num, by rw [HS.out]; exact HO6.out, HB6.out⟩
        case measure => simp [intOf]; omega
      · obtain rfl : k = xs.length := by omega
        rw [List.take_length] at hown
        have HB : Hid (Below w.heap.size w wr) := hb
        have HL : Hid ((xs.map (· / 8)).length = xs.length) := by show (xs.map (· / 8)).length = xs.length; simp
        have HC : Hid (∀ w', w' = wr → Calls _ _ _ w' _) := fun w' q => compact_any w' w.heap.size u3 (xs.map (· / 8)) (by rw [HL.out]; exact hn) (q ▸ hown)
        rw [HL.out] at HC
        clear hown hb
        go_wp2_with fail
        refine (HC.out wr rfl).mono ?_
        rintro e w4 ⟨v4, rfl, hown4, hb4⟩
        have HO4 : Hid (_) := hown4
        have HB4 : Hid (Below w.heap.size w w4) := HB.out.trans hb4
        clear hown4 hb4
        go_wp2
        go_ret
        refine ⟨v4, rfl, ?_, HB4.out⟩
        rw [HR.out]
        exact HO4.out
end Go.Proofs.Ytihfenpeahhfdaa.ints
