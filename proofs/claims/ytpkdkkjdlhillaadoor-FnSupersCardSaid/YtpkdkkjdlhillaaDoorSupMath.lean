/-
  A config comes back from its line.
-/
import Derived.Test.YtpkdkkjdlhillaaDoorRsMath
namespace Go.Proofs.YtpkdkkjdlhillaaDoor.crc
open Go.RowKit
open wmath wb num kinds txt

theorem cutL {s : ByteArray} {A B C : List UInt8} {i j : Nat} (h : s.data.toList = A ++ (B ++ C)) (hi : A.length = i) (hj : A.length + B.length = j) : s.extract i j = ⟨B.toArray⟩ := by
  apply bytes_of
  rw [Lib.extract_data, h, ← hi, ← hj]
  simp
theorem kind_back (s : ByteArray) (k : Nat) (hk : k ≤ s.size) : ∀ j, j < k → (maskN s k / 2 ^ j % 2 = 1 ↔ s.data.toList.getD j 0 = 114) := by
  induction k with
  | zero => intro j hj; omega
  | succ k ih =>
    intro j hj
    have hlt := maskN_lt s k
    have hks : k < s.size := by omega
    have hat : s[k] = s.data.toList.getD k 0 := by
      rw [List.getD_eq_getElem?_getD, List.getElem?_eq_getElem (by simpa using hks)]
      rfl
    have h114 : ((s[k].toNat : Int) = 114) ↔ s.data.toList.getD k 0 = 114 := by
      rw [hat]
      generalize s.data.toList.getD k 0 = b
      constructor
      · intro h
        apply UInt8.toNat_inj.1
        show b.toNat = 114
        omega
      · intro h; rw [h]; rfl
    rw [maskN, dif_pos hks]
    by_cases hjk : j = k
    · subst hjk
      by_cases hc : (s[j].toNat : Int) = 114
      · rw [if_pos hc]
        have e : (maskN s j + 2 ^ j) / 2 ^ j = 1 := by
          rw [Nat.add_div_right _ (Nat.two_pow_pos j), Nat.div_eq_of_lt hlt]
        rw [e]
        exact ⟨fun _ => h114.1 hc, fun _ => rfl⟩
      · rw [if_neg hc, Nat.div_eq_of_lt hlt]
        exact ⟨fun h => by omega, fun h => absurd (h114.2 h) hc⟩
    · have hj2 : j < k := by omega
      have h := ih (by omega) j hj2
      by_cases hc : (s[k].toNat : Int) = 114
      · rw [if_pos hc]
        have e : (maskN s k + 2 ^ k) / 2 ^ j % 2 = maskN s k / 2 ^ j % 2 := by
          obtain ⟨d, rfl⟩ : ∃ d, k = j + (d + 1) := ⟨k - j - 1, by omega⟩
          rw [show (2 : Nat) ^ (j + (d + 1)) = 2 ^ j * (2 * 2 ^ d) by rw [Nat.pow_add, Nat.pow_succ, Nat.mul_comm (2 ^ d) 2], Nat.add_mul_div_left _ _ (Nat.two_pow_pos j), Nat.add_mul_mod_self_left]
        rw [e]; exact h
      · rw [if_neg hc]; exact h
theorem kinds_back (s : ByteArray) (h : isType s = true) : kindsS s.size (maskN s s.size) = s := by
  apply bytes_of
  show (kindsL s.size (maskN s s.size)).toArray.toList = s.data.toList
  have hall : s.data.toList.all isKind = true := by
    unfold isType at h
    simp only [Bool.and_eq_true] at h
    exact h.2
  apply List.ext_getElem
  · simp [kindsL]
  · intro j h1 h2
    have hj : j < s.size := by simpa using h2
    have hk := kind_back s s.size (Nat.le_refl _) j hj
    have hg : s.data.toList.getD j 0 = s.data.toList[j] := by rw [List.getD_eq_getElem?_getD, List.getElem?_eq_getElem h2]; rfl
    rw [hg] at hk
    have hb := List.all_eq_true.1 hall _ (List.getElem_mem h2)
    generalize s.data.toList[j] = b at hk hb
    have e : (kindsL s.size (maskN s s.size)).toArray.toList[j]'h1 = kindB (maskN s s.size) j := by simp [kindsL]
    rw [e]
    unfold kindB
    by_cases hc : maskN s s.size / 2 ^ j % 2 = 1
    · rw [if_pos hc]; exact (hk.1 hc).symm
    · rw [if_neg hc]
      unfold isKind at hb
      simp at hb
      rcases hb with q | q
      · exact q.symm
      · exact absurd (hk.2 q) hc
def flatT (xs : List ByteArray) : List UInt8 := xs.flatMap fun x => (typeStr x).data.toList
theorem flatT_at (xs : List ByteArray) (R : List UInt8) : ∀ (i j : Nat) (hi : i < xs.length), j < 4 → (flatT xs ++ R).getD (4 * i + j) 0 = (typeStr xs[i]).data.toList.getD j 0 := by
  induction xs with
  | nil => intro i j hi; cases hi
  | cons x xs ih =>
    intro i j hi hj
    have h4 : (typeStr x).data.toList.length = 4 := rfl
    have e : flatT (x :: xs) ++ R = (typeStr x).data.toList ++ (flatT xs ++ R) := by unfold flatT; rw [List.flatMap_cons, List.append_assoc]
    rw [e, List.getD_eq_getElem?_getD]
    cases i with
    | zero =>
      rw [List.getElem?_append_left (by omega), List.getD_eq_getElem?_getD]
      simp
    | succ i =>
      rw [List.getElem?_append_right (by omega), h4, show 4 * (i + 1) + j - 4 = 4 * i + j by omega, ← List.getD_eq_getElem?_getD]
      exact ih i j (by simpa using hi) hj
theorem upTo_flat (n1 n2 n3 : Int) (xs : List ByteArray) : ∀ k, k ≤ xs.length → (upTo n1 n2 n3 xs k).data.toList = (headStr n1 n2 n3).data.toList ++ ((byteStr (xs.length : Int)).data.toList ++ flatT (xs.take k)) := by
  intro k
  induction k with
  | zero => intro _; show (headStr n1 n2 n3 ++ byteStr _).data.toList = _; simp [flatT]
  | succ k ih =>
    intro hk
    rw [upTo, dif_pos (by omega), ByteArray.data_append, Array.toList_append, ih (by omega)]
    have e : flatT (xs.take (k + 1)) = flatT (xs.take k) ++ (typeStr xs[k]).data.toList := by
      unfold flatT
      rw [List.take_succ_eq_append_getElem (by omega), List.flatMap_append]
      simp
    rw [e]
    simp only [List.append_assoc]
theorem super_list {n1 n2 n3 : Int} {xs : List ByteArray} : ∃ T : List UInt8, (sealedStr (upTo n1 n2 n3 xs xs.length)).data.toList = [78, 86, 71, 49] ++ ((shortStr n1).data.toList ++ ((shortStr n2).data.toList ++ ((shortStr n3).data.toList ++ ((byteStr (xs.length : Int)).data.toList ++ (flatT xs ++ T))))) := by
  rw [sealed_data, padded_data, upTo_flat n1 n2 n3 xs xs.length (Nat.le_refl _), List.take_length]
  unfold headStr
  simp only [ByteArray.data_append, Array.toList_append, List.append_assoc]
  exact ⟨_, rfl⟩
theorem type_b1 (s : ByteArray) : (typeStr s).data.toList.getD 1 0 = UInt8.ofNat ((maskN s s.size : Int) / 65536 % 256).toNat := rfl
theorem type_b2 (s : ByteArray) : (typeStr s).data.toList.getD 2 0 = UInt8.ofNat ((maskN s s.size : Int) / 256 % 256).toNat := rfl
theorem type_b3 (s : ByteArray) : (typeStr s).data.toList.getD 3 0 = UInt8.ofNat ((maskN s s.size : Int) % 256).toNat := rfl
theorem byte_of (n : Nat) (h : n < 256) : ((strOfNums [(n : Int) % 256]).data.toList.getD 0 0).toNat = n := by
  show (UInt8.ofNat ((n : Int) % 256).toNat).toNat = n
  have := byte_nat4 n
  omega
set_option maxRecDepth 20000 in
/-- A right config comes back from its line. -/
theorem sup_back {n1 n2 n3 : Int} {xs : List ByteArray} (h : configOk n1 n2 n3 xs = true) : (superStr n1 n2 n3 xs).size = 64 ∧ supN (superStr n1 n2 n3 xs) 4 = n1 ∧ supN (superStr n1 n2 n3 xs) 6 = n2 ∧ supN (superStr n1 n2 n3 xs) 8 = n3 ∧ supXs (superStr n1 n2 n3 xs) = xs ∧ supB (superStr n1 n2 n3 xs) = true := by
  obtain ⟨h1, h2, h3, h12, hty⟩ := conf_in h
  obtain ⟨T, hT⟩ := super_list (n1 := n1) (n2 := n2) (n3 := n3) (xs := xs)
  have hS : superStr n1 n2 n3 xs = sealedStr (upTo n1 n2 n3 xs xs.length) := by unfold superStr; exact if_pos h
  have h64 : (sealedStr (upTo n1 n2 n3 xs xs.length)).size = 64 := sealedStr_size _ (by rw [upTo_size _ _ _ _ _ (Nat.le_refl _)]; omega)
  have hself : superStr n1 n2 n3 xs = superStr n1 n2 n3 xs := rfl
  rw [hS] at hself ⊢
  generalize hL : sealedStr (upTo n1 n2 n3 xs xs.length) = L at hT h64 hself ⊢
  rw [hL] at hS
  have l1 : (shortStr n1).data.toList.length = 2 := rfl
  have l2 : (shortStr n2).data.toList.length = 2 := rfl
  have l3 : (shortStr n3).data.toList.length = 2 := rfl
  have lb : (byteStr (xs.length : Int)).data.toList.length = 1 := rfl
  have p1 : L.extract 4 6 = shortStr n1 := cutL (i := 4) (j := 6) (A := [78, 86, 71, 49]) (B := (shortStr n1).data.toList) hT rfl rfl
  have p2 : L.extract 6 8 = shortStr n2 := cutL (i := 6) (j := 8) (A := [78, 86, 71, 49] ++ (shortStr n1).data.toList) (B := (shortStr n2).data.toList) (C := (shortStr n3).data.toList ++ ((byteStr (xs.length : Int)).data.toList ++ (flatT xs ++ T))) (by rw [hT, List.append_assoc]) rfl rfl
  have p3 : L.extract 8 10 = shortStr n3 := cutL (i := 8) (j := 10) (A := [78, 86, 71, 49] ++ ((shortStr n1).data.toList ++ (shortStr n2).data.toList)) (B := (shortStr n3).data.toList) (C := (byteStr (xs.length : Int)).data.toList ++ (flatT xs ++ T)) (by rw [hT]; simp only [List.append_assoc]) rfl rfl
  have e1 : supN L 4 = n1 := by show (num (L.extract 4 6).data.toList : Int) = n1; rw [p1]; exact num_shortStr n1 (by omega) (by omega)
  have e2 : supN L 6 = n2 := by show (num (L.extract 6 8).data.toList : Int) = n2; rw [p2]; exact num_shortStr n2 (by omega) (by omega)
  have e3 : supN L 8 = n3 := by show (num (L.extract 8 10).data.toList : Int) = n3; rw [p3]; exact num_shortStr n3 (by omega) (by omega)
  -- the list behind the head
  have hAt : ∀ p, 11 ≤ p → L.data.toList.getD p 0 = (flatT xs ++ T).getD (p - 11) 0 := fun p hp => by
    have e : L.data.toList = ([78, 86, 71, 49] ++ ((shortStr n1).data.toList ++ ((shortStr n2).data.toList ++ ((shortStr n3).data.toList ++ (byteStr (xs.length : Int)).data.toList)))) ++ (flatT xs ++ T) := by
      rw [hT]; simp only [List.append_assoc]
    have hl : ([78, 86, 71, 49] ++ ((shortStr n1).data.toList ++ ((shortStr n2).data.toList ++ ((shortStr n3).data.toList ++ (byteStr (xs.length : Int)).data.toList)))).length = 11 := rfl
    rw [e, List.getD_eq_getElem?_getD, List.getElem?_append_right (by rw [hl]; exact hp), hl, ← List.getD_eq_getElem?_getD]
  have hc : cntS L = xs.length := by
    show (L.data.toList.getD 10 0).toNat = xs.length
    have e : L.data.toList.getD 10 0 = (strOfNums [(xs.length : Int) % 256]).data.toList.getD 0 0 := by
      rw [hT]
      rfl
    rw [e]
    exact byte_of _ (by omega)
  have hk : ∀ i (hi : i < xs.length), kindT L i = xs[i] := fun i hi => by
    have hs := isType_size (hty i hi)
    have hm : maskN xs[i] xs[i].size < 8388608 := Nat.lt_of_lt_of_le (maskN_lt _ _) (Nat.pow_le_pow_right (by omega) (show xs[i].size ≤ 23 by omega))
    have hb : ∀ j, j < 4 → L.data.toList.getD (11 + 4 * i + j) 0 = (typeStr xs[i]).data.toList.getD j 0 := fun j hj => by
      rw [hAt _ (by omega), show 11 + 4 * i + j - 11 = 4 * i + j by omega]
      exact flatT_at xs T i j hi hj
    have b0 : byteN L (11 + 4 * i) = xs[i].size := by
      show (L.data.toList.getD (11 + 4 * i) 0).toNat = _
      have := hb 0 (by omega)
      rw [Nat.add_zero] at this
      rw [this]
      show (UInt8.ofNat ((xs[i].size : Int) % 256).toNat).toNat = _
      have := byte_nat4 xs[i].size
      omega
    have bm : maskS L (11 + 4 * i) = maskN xs[i] xs[i].size := by
      show (L.data.toList.getD (11 + 4 * i + 1) 0).toNat * 65536 + (L.data.toList.getD (11 + 4 * i + 2) 0).toNat * 256 + (L.data.toList.getD (11 + 4 * i + 3) 0).toNat = _
      rw [hb 1 (by omega), hb 2 (by omega), hb 3 (by omega), type_b1, type_b2, type_b3]
      generalize maskN xs[i] xs[i].size = m at hm
      have q1 := byte_nat4 (m / 65536)
      have q2 := byte_nat4 (m / 256)
      have q3 := byte_nat4 m
      rw [show ((m / 65536 : Nat) : Int) = (m : Int) / 65536 by omega] at q1
      rw [show ((m / 256 : Nat) : Int) = (m : Int) / 256 by omega] at q2
      omega
    unfold kindT
    rw [b0, bm, Nat.min_eq_left (by omega)]
    exact kinds_back _ (hty i hi)
  have hx : supXs L = xs := by
    unfold supXs
    rw [hc, Nat.min_eq_left h12]
    apply List.ext_getElem
    · rw [listT_len]
    · intro i q1 q2
      have e : (listT L xs.length)[i]'q1 = kindT L i := by simp [listT]
      rw [e]
      exact hk i q2
  refine ⟨h64, e1, e2, e3, hx, ?_⟩
  unfold supB supStr
  rw [e1, e2, e3, hx, hS]
  simp
theorem sup_none {n1 n2 n3 : Int} {xs : List ByteArray} (h : configOk n1 n2 n3 xs = false) : superStr n1 n2 n3 xs = ⟨#[]⟩ := by
  unfold superStr
  rw [h]
  exact if_neg (by decide)
end Go.Proofs.YtpkdkkjdlhillaaDoor.crc
