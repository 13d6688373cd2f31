/-
  What Patched leaves, word by word; what a list has; a word read by the program.
-/
import Derived.Test.YtjdlphebnhkghaaPtImpl2
namespace Go.Proofs.Ytjdlphebnhkghaa.pt
open Go.RowKit
open wmath num ints ref yw wb

def w8 (l : List UInt8) (i : Nat) : List UInt8 := (l.drop (8 * i)).take 8
theorem w8_get (l : List UInt8) (i m : Nat) : (w8 l i)[m]? = if m < 8 then l[8 * i + m]? else none := by
  unfold w8
  rw [List.getElem?_take]
  split
  · rw [List.getElem?_drop]
  · rfl
theorem w8_put (l t : List UInt8) (q i : Nat) (ht : t.length = 8) (hq : 8 * q + 8 ≤ l.length) (_hi : 8 * i + 8 ≤ l.length) : w8 (putAt l (8 * q) t) i = if i = q then t else w8 l i := by
  apply List.ext_getElem?
  intro m
  rw [w8_get]
  by_cases hm : m < 8
  · rw [if_pos hm, putAt_get l (8 * q) t _ (by omega)]
    by_cases e : i = q
    · rw [if_pos e, if_neg (by omega), if_pos (by omega)]
      congr 1
      omega
    · rw [if_neg e]
      by_cases h1 : 8 * i + m < 8 * q
      · rw [if_pos h1, w8_get, if_pos hm]
      · rw [if_neg h1, if_neg (by omega), w8_get, if_pos hm]
  · rw [if_neg hm]
    by_cases e : i = q
    · rw [if_pos e, List.getElem?_eq_none (by omega)]
    · rw [if_neg e, w8_get, if_neg hm]
theorem ext_list (s : ByteArray) (i : Nat) : (s.extract (8 * i) (8 * i + 8)).data.toList = w8 s.data.toList i := by
  unfold w8
  simp only [ByteArray.data_extract, Array.toList_extract, List.extract_eq_take_drop]
  congr 1
  omega
theorem wAt_list (s : ByteArray) (i : Nat) : wAt s (8 * i) = wrap64 (num (w8 s.data.toList i)) := by
  unfold wAt
  rw [ext_list]
theorem ptL_w8 (s : ByteArray) (fr to xs : List Int) (h : ∀ k, k < xs.length → 0 ≤ xs.getD k 0 ∧ 8 * xs.getD k 0 + 8 ≤ (s.size : Int)) (i : Nat) (hi : 8 * i + 8 ≤ s.size) : ∀ k, k ≤ xs.length →
    w8 (ptL s fr to xs k) i = if (i : Int) ∈ xs.take k then (turned fr to (wAt s (8 * i))).data.toList else w8 s.data.toList i
  | 0, _ => by simp [ptL]
  | k + 1, hk => by
    have ih := ptL_w8 s fr to xs h i hi k (by omega)
    obtain ⟨h0, h1⟩ := h k (by omega)
    have hl := ptL_len s fr to xs k (fun j hj => by have := h j (by omega); omega)
    have hmem : (i : Int) ∈ xs.take (k + 1) ↔ ((i : Int) ∈ xs.take k ∨ (i : Int) = xs.getD k 0) := by
      rw [List.take_succ_eq_append_getElem (by omega), List.mem_append, List.mem_singleton, getD_intI xs k (by omega)]
    rw [ptL, w8_put _ _ _ _ (turned_len _ _ _) (by omega) (by omega), ih]
    by_cases e : i = (xs.getD k 0).toNat
    · have e2 : (i : Int) = xs.getD k 0 := by omega
      rw [if_pos e, if_pos (hmem.2 (.inr e2))]
      have : wOf s xs k = wAt s (8 * i) := by unfold wOf; rw [e]
      rw [this]
    · have e2 : ¬ (i : Int) = xs.getD k 0 := by omega
      rw [if_neg e]
      by_cases hm : (i : Int) ∈ xs.take k
      · rw [if_pos hm, if_pos (hmem.2 (.inl hm))]
      · rw [if_neg hm, if_neg (fun q => (hmem.1 q).elim hm e2)]
theorem seek_mem (r : Int) (l : List Int) (k : Nat) (hk : k ≤ l.length) (h : r ∈ l.take k) : 0 ≤ seek r l k := by
  induction k with
  | zero => simp at h
  | succ k ih =>
    rw [List.take_succ_eq_append_getElem (by omega), List.mem_append, List.mem_singleton] at h
    rw [seek]
    split
    · assumption
    · rename_i hn
      rcases h with q | q
      · exact absurd (ih (by omega) q) hn
      · rw [if_pos (by rw [← getD_at l k (by omega)]; exact q.symm)]
        omega
/-- The old references to which the words are turned. -/
def oldsK : Nat → List Int
  | 0 => []
  | k + 1 => oldsK k ++ [2 * (5 + (k : Int))]
theorem oldsK_len (k : Nat) : (oldsK k).length = k := by
  induction k with
  | zero => rfl
  | succ k ih => rw [oldsK, List.length_append, ih]; rfl
theorem oldsK_at (n j : Nat) (h : j < n) : (oldsK n).getD j 0 = 2 * (5 + (j : Int)) := by
  induction n with
  | zero => omega
  | succ n ih =>
    rw [oldsK]
    by_cases e : j = n
    · subst e
      rw [List.getD_eq_getElem?_getD, List.getElem?_append_right (by rw [oldsK_len]; exact Nat.le_refl _), oldsK_len]
      simp
    · rw [List.getD_eq_getElem?_getD, List.getElem?_append_left (by rw [oldsK_len]; omega), ← List.getD_eq_getElem?_getD]
      exact ih (by omega)
theorem oldsK_mem (n : Nat) : ∀ x ∈ oldsK n, ∃ j : Nat, j < n ∧ x = 2 * (5 + (j : Int)) := by
  induction n with
  | zero => intro x hx; cases hx
  | succ n ih =>
    intro x hx
    rw [oldsK] at hx
    rcases List.mem_append.1 hx with q | q
    · obtain ⟨j, hj, e⟩ := ih x q
      exact ⟨j, by omega, e⟩
    · exact ⟨n, by omega, List.mem_singleton.1 q⟩
theorem old_kind (j : Nat) (h : j < 100) : refKind (2 * (5 + (j : Int))) = 1 := by
  unfold refKind
  rw [if_neg (by omega), if_pos (by omega)]
theorem fwd_old (L : List Int) (v : Int) (hv : v ∈ L) (_hl : L.length < 100) : ∃ j : Nat, j < L.length ∧ fwd L (oldsK L.length) v = 2 * (5 + (j : Int)) := by
  have h1 := seek_mem v L L.length (Nat.le_refl _) (by rw [List.take_length]; exact hv)
  have h2 := seek_in v L L.length
  refine ⟨(seek v L L.length).toNat, by omega, ?_⟩
  unfold fwd
  rw [if_pos h1]
  exact oldsK_at _ _ (by omega)
theorem word_back (y : Int) (h0 : 0 ≤ y) (h1 : y < 9223372036854775808) : wrap64 (num (wordStr (IntKind.u64.wrap y)).data.toList) = y := by
  have e : IntKind.u64.wrap y = y := by
    rw [IntKind.wrap_u64]
    omega
  rw [e, num_wordStr y h0 (by omega)]
  unfold wrap64
  omega
theorem ywK_mem (s : ByteArray) (xs : List Int) (n k : Nat) (h : k < n) : wOf s xs k ∈ ywK s xs n := by
  have := List.getElem_mem (l := ywK s xs n) (n := k) (by rw [ywK_len]; exact h)
  rwa [ywK_at s xs n k h] at this
/-- What the law asks of Patched. -/
theorem pt_know (s : ByteArray) (xs : List Int) (h : ywOk s xs = true) (hn : xs.length ≤ 10) :
    ptOk s (ywK s xs xs.length) (oldsK xs.length) xs = true ∧ (ptS s (ywK s xs xs.length) (oldsK xs.length) xs).size = s.size ∧
    (∀ i : Nat, 8 * i + 8 ≤ s.size → ((i : Int) ∈ xs → refKind (wAt (ptS s (ywK s xs xs.length) (oldsK xs.length) xs) (8 * i)) = 1) ∧ ((i : Int) ∉ xs → (ptS s (ywK s xs xs.length) (oldsK xs.length) xs).extract (8 * i) (8 * i + 8) = s.extract (8 * i) (8 * i + 8))) ∧
    ywOk (ptS s (ywK s xs xs.length) (oldsK xs.length) xs) xs = decide (xs.length = 0) := by
  have hb := yw_bounds h
  have hLl := ywK_len s xs xs.length
  have hok : ptOk s (ywK s xs xs.length) (oldsK xs.length) xs = true := by
    unfold ptOk fwdOkB
    rw [h, hLl, oldsK_len]
    have : allRef (oldsK xs.length) = true := by
      unfold allRef
      rw [List.all_eq_true]
      intro x hx
      obtain ⟨j, hj, rfl⟩ := oldsK_mem _ x hx
      rw [old_kind j (by omega)]; rfl
    rw [this]
    simp
    omega
  have hS : ptS s (ywK s xs xs.length) (oldsK xs.length) xs = ⟨(ptL s (ywK s xs xs.length) (oldsK xs.length) xs xs.length).toArray⟩ := by unfold ptS; rw [if_pos hok]
  have hlen := ptL_len s (ywK s xs xs.length) (oldsK xs.length) xs xs.length (fun j hj => by have := hb j hj; omega)
  have hsz : (ptS s (ywK s xs xs.length) (oldsK xs.length) xs).size = s.size := by rw [hS]; exact hlen
  have hw : ∀ i : Nat, 8 * i + 8 ≤ s.size → w8 (ptS s (ywK s xs xs.length) (oldsK xs.length) xs).data.toList i = if (i : Int) ∈ xs then (turned (ywK s xs xs.length) (oldsK xs.length) (wAt s (8 * i))).data.toList else w8 s.data.toList i := fun i hi => by
    have := ptL_w8 s (ywK s xs xs.length) (oldsK xs.length) xs hb i hi xs.length (Nat.le_refl _)
    rw [List.take_length] at this
    rw [hS]
    exact this
  have hk1 : ∀ i : Nat, 8 * i + 8 ≤ s.size → (i : Int) ∈ xs → refKind (wAt (ptS s (ywK s xs xs.length) (oldsK xs.length) xs) (8 * i)) = 1 := fun i hi hm => by
    rw [wAt_list, hw i hi, if_pos hm]
    obtain ⟨k, hk, e⟩ := List.getElem_of_mem hm
    rw [getD_intI xs k hk] at e
    have hv : wAt s (8 * i) ∈ ywK s xs xs.length := by
      have h1 := ywK_mem s xs xs.length k hk
      have : wOf s xs k = wAt s (8 * i) := by unfold wOf; rw [e, Int.toNat_natCast]
      rwa [this] at h1
    obtain ⟨j, hj, he⟩ := fwd_old (ywK s xs xs.length) _ hv (by omega)
    rw [hLl] at he hj
    unfold turned
    rw [he, word_back _ (by omega) (by omega)]
    exact old_kind j (by omega)
  refine ⟨hok, hsz, fun i hi => ⟨hk1 i hi, fun hm => ?_⟩, ?_⟩
  · apply ByteArray.ext
    apply Array.ext'
    rw [ext_list, ext_list, hw i hi, if_neg hm]
  · unfold ywOk at h ⊢
    rw [Bool.and_eq_true, Bool.and_eq_true] at h
    have him : imgB (ptS s (ywK s xs xs.length) (oldsK xs.length) xs) = true := by
      have := h.2.1
      unfold imgB at this ⊢
      rw [hsz]
      exact this
    rw [h.1, him]
    by_cases h0 : xs.length = 0
    · rw [decide_eq_true h0, h0]; rfl
    · rw [decide_eq_false h0]
      have h1 : ywB (ptS s (ywK s xs xs.length) (oldsK xs.length) xs) xs 1 = false := by
        rw [ywB]
        obtain ⟨q0, q1⟩ := hb 0 (by omega)
        have hm : (((xs.getD 0 0).toNat : Nat) : Int) ∈ xs := by
          rw [Int.toNat_of_nonneg q0, ← getD_intI xs 0 (by omega)]
          exact List.getElem_mem _
        have hk := hk1 (xs.getD 0 0).toNat (by omega) hm
        have e : refKind (wOf (ptS s (ywK s xs xs.length) (oldsK xs.length) xs) xs 0) = 1 := hk
        rw [e]
        simp
      have := ywB_le (ptS s (ywK s xs xs.length) (oldsK xs.length) xs) xs 1 xs.length (by omega) h1
      rw [this]; rfl
set_option maxHeartbeats 1000000 in
theorem has_yes (w : World) (a : Option Addr) (n cap : Nat) (l : List Int) (r : Int) (hx : l.length = n) (hn : n ≤ 1048576) (hl : Nums w a l) (hin : r ∈ l) :
    Calls Try.prog 18 #[.slice a n cap, .int .i64 r] w fun e w' => e = .returned (.bool true) ∧ w' = w := by
  have HN : Hid (Nums w a l) := hl
  have HL : Hid (l.length = n) := hx
  have HIN : Hid (∃ i, i < n ∧ l.getD i 0 = r) := by
    obtain ⟨i, hi, e⟩ := List.getElem_of_mem hin
    exact ⟨i, by omega, by rw [← getD_intI l i hi]; exact e⟩
  clear hl hx hin
  go_enter Try.func18, Try.ntmps18
  go_wp2
  go_loopw [5] (fun i wr => ∃ k : Nat, k ≤ n ∧ i = .int .i64 (k : Int) ∧ (∀ j, j < k → l.getD j 0 ≠ r) ∧ w = wr) (fun i _ => n - (intOf i).toNat)
  case atStart => exact ⟨0, Nat.zero_le _, rfl, fun j hj => by omega, rfl⟩
  case round =>
    obtain ⟨k, hk, rfl, hno, rfl⟩ := hrel
    have HNO : Hid (∀ j, j < k → l.getD j 0 ≠ r) := hno
    clear hno
    by_cases hlt : k < n
    · have hlti : (k : Int) < (n : Int) := by omega
      have hk0 : (0 : Int) ≤ (k : Int) := by omega
      obtain ⟨b, off, rfl, c0⟩ := HN.out k (by have := HL.out; omega)
      rw [getD_intI l k (by have := HL.out; omega)] at c0
      have HE : Hid (l.getD k 0 = l.getD k 0) := rfl
      by_cases hx : l.getD k 0 = r
      · rw [hx] at c0
        have he : (r == r) = true := by simp
        clear hx
        go_wp2
        go_ret
        exact ⟨rfl, rfl⟩
      · have HNO2 : Hid (∀ j, j < k + 1 → l.getD j 0 ≠ r) := fun j hj => by
          by_cases e : j = k
          · rw [e]; exact hx
          · exact HNO.out j (by omega)
        generalize l.getD k 0 = x at c0 hx
        have he : (x == r) = false := by simpa using hx
        clear hx
        go_wp2
        go_roundw
        case rel => exact ⟨k + 1, by omega, by go_num, HNO2.out, trivial⟩
        case measure => simp [intOf]; omega
    · exfalso
      obtain ⟨i, h1, h2⟩ := HIN.out
      exact HNO.out i (by omega) h2
set_option maxRecDepth 20000 in
theorem has_no (w : World) (a : Option Addr) (n cap : Nat) (l : List Int) (r : Int) (hx : l.length = n) (hn : n ≤ 1048576) (hl : Nums w a l) (hin : r ∉ l) :
    Calls Try.prog 18 #[.slice a n cap, .int .i64 r] w fun e w' => e = .returned (.bool false) ∧ w' = w := by
  have HN : Hid (Nums w a l) := hl
  have HL : Hid (l.length = n) := hx
  have HIN : Hid (∀ i, i < n → l.getD i 0 ≠ r) := fun i hi e => hin (by rw [← e, ← getD_intI l i (by omega)]; exact List.getElem_mem _)
  clear hl hx hin
  go_enter Try.func18, Try.ntmps18
  go_wp2
  go_loopw [5] (fun i wr => ∃ k : Nat, k ≤ n ∧ i = .int .i64 (k : Int) ∧ w = wr) (fun i _ => n - (intOf i).toNat)
  case atStart => exact ⟨0, Nat.zero_le _, rfl, rfl⟩
  case round =>
    obtain ⟨k, hk, rfl, rfl⟩ := hrel
    by_cases hlt : k < n
    · have hlti : (k : Int) < (n : Int) := by omega
      have hk0 : (0 : Int) ≤ (k : Int) := by omega
      obtain ⟨b, off, rfl, c0⟩ := HN.out k (by have := HL.out; omega)
      rw [getD_intI l k (by have := HL.out; omega)] at c0
      have hx := HIN.out k hlt
      generalize l.getD k 0 = x at c0 hx
      have he : (x == r) = false := by simpa using hx
      clear hx
      go_wp2
      go_roundw
      case rel => exact ⟨k + 1, by omega, by go_num, trivial⟩
      case measure => simp [intOf]; omega
    · go_wp2
      go_ret
      exact ⟨rfl, rfl⟩
theorem impl_eight (s : ByteArray) (w : World) (hs : s.size = 8) :
    Calls Try.prog 17 #[.string s] w fun e w' => e = .returned (.tuple #[.int .i64 (wrap64 (num s.data.toList)), .bool true]) ∧ w' = w := by
  have h2 : ((s.size : Int) != 8) = false := by simp; omega
  have HC : Hid (∀ w, Calls _ _ _ w _) := fun w => numberOf_any s w (by omega)
  clear hs
  generalize num s.data.toList = m at HC ⊢
  go_enter Try.func17, Try.ntmps17
  go_wp2_with fail
  refine (HC.out w).mono ?_
  rintro e w1 ⟨rfl, rfl⟩
  go_wp2
  go_ret2
  exact ⟨rfl, rfl⟩
end Go.Proofs.Ytjdlphebnhkghaa.pt
