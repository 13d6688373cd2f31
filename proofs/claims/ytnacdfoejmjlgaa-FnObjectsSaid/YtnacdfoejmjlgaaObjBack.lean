/-
  A right object comes back from its bytes; what is read, written again, has just its bytes.
-/
import Derived.Test.YtnacdfoejmjlgaaObj4
import Derived.Test.YtnacdfoejmjlgaaOBox
import Derived.Test.YtnacdfoejmjlgaaWBack
import Derived.Test.YtnacdfoejmjlgaaNum
import Derived.Lib.Strings
namespace Go.Proofs.Ytnacdfoejmjlgaa.obj
open Go.RowKit
open wmath wb num kinds ref

theorem cutO {s : ByteArray} {A B C : List UInt8} {i j : Nat} (h : s.data.toList = A ++ (B ++ C)) (hi : A.length = i) (hj : A.length + B.length = j) : s.extract i j = ⟨B.toArray⟩ := by
  apply wb.bytes_of
  rw [Lib.extract_data, h, ← hi, ← hj]
  simp
theorem first_back (t : Int) (vs : List Int) : ∀ (k : Nat) (R : ByteArray), (wordsK t vs k ++ R).extract 0 8 = wordS (t + 1) := by
  intro k
  induction k with
  | zero =>
    intro R
    exact cutO (A := []) (B := (wordS (t + 1)).data.toList) (C := R.data.toList) (i := 0) (j := 8) (by rw [wordsK, ByteArray.data_append, Array.toList_append]; rfl) rfl rfl
  | succ k ih =>
    intro R
    rw [wordsK, ByteArray.append_assoc]
    exact ih _
theorem word_back (t : Int) (vs : List Int) (i : Nat) : ∀ (k : Nat) (R : ByteArray), i < k → (wordsK t vs k ++ R).extract (8 + 8 * i) (8 + 8 * i + 8) = wordS (vs.getD i 0) := by
  intro k
  induction k with
  | zero => intro R h; omega
  | succ k ih =>
    intro R h
    by_cases e : i = k
    · subst e
      refine cutO (A := (wordsK t vs i).data.toList) (B := (wordS (vs.getD i 0)).data.toList) (C := R.data.toList) (i := 8 + 8 * i) (j := 8 + 8 * i + 8) ?_ ?_ ?_
      · rw [wordsK, ByteArray.append_assoc, ByteArray.data_append, ByteArray.data_append, Array.toList_append, Array.toList_append]
      · have := wordsK_size t vs i
        simpa using this
      · have h1 := wordsK_size t vs i
        have h2 := wordS_size (vs.getD i 0)
        have h3 : (wordsK t vs i).data.toList.length = 8 + 8 * i := by simpa using h1
        have h4 : (wordS (vs.getD i 0)).data.toList.length = 8 := by simpa using h2
        omega
    · rw [wordsK, ByteArray.append_assoc]
      exact ih _ (by omega)
theorem num_back (n : Int) (h0 : -9223372036854775808 ≤ n) (h1 : n ≤ 9223372036854775807) : wrap64 (num (wordS n).data.toList) = n := by
  have hw : 0 ≤ IntKind.u64.wrap n ∧ IntKind.u64.wrap n < 18446744073709551616 := by rw [IntKind.wrap_u64]; omega
  have h2 := num_wordStr (IntKind.u64.wrap n) hw.1 hw.2
  have h3 := back_wrap n h0 h1
  have e : ((num (wordS n).data.toList : Nat) : Int) = IntKind.u64.wrap n := h2
  rw [e]; exact h3
theorem getD_i64 (vs : List Int) (h : ∀ x ∈ vs, -9223372036854775808 ≤ x ∧ x ≤ 9223372036854775807) (i : Nat) : -9223372036854775808 ≤ vs.getD i 0 ∧ vs.getD i 0 ≤ 9223372036854775807 := by
  by_cases hi : i < vs.length
  · rw [List.getD_eq_getElem?_getD, List.getElem?_eq_getElem hi]
    exact h _ (List.getElem_mem hi)
  · rw [List.getD_eq_getElem?_getD, List.getElem?_eq_none (by omega)]
    exact ⟨by decide, by decide⟩
/-- A right object comes back from its bytes, which are whole lines. -/
theorem obj_back {xs : List ByteArray} {t : Int} {vs : List Int} (h : objOkB xs t vs = true) (hv : ∀ x ∈ vs, -9223372036854775808 ≤ x ∧ x ≤ 9223372036854775807) :
    ((objStr xs t vs).size : Int) = 64 * runOf (kd xs t) ∧ roB xs (objStr xs t vs) = true ∧ roT xs (objStr xs t vs) = t ∧ roV xs (objStr xs t vs) = vs := by
  obtain ⟨p, hp, hpl, hp12, hkd, hty, hlen, h23, h1⟩ := objOk_in h
  have hs0 : objStr xs t vs = wordsK t vs vs.length ++ nulls (padN (kd xs t)) := by unfold objStr; exact if_pos h
  have hself : objStr xs t vs = objStr xs t vs := rfl
  obtain ⟨s, hs⟩ : ∃ s, s = objStr xs t vs := ⟨_, rfl⟩
  have hksz : (kd xs t).size = vs.length := by rw [hkd, hlen]
  have hrun : runOf (kd xs t) = ((vs.length : Int) + 8) / 8 := by
    unfold runOf
    rw [hkd, if_pos hty, hlen]
  have hsz : (s.size : Int) = 64 * runOf (kd xs t) := by
    rw [hs, hs0, ByteArray.size_append, wordsK_size, nulls_size, hrun]
    unfold padN
    rw [hksz]
    omega
  have e0 : wAt s 0 = t + 1 := by
    unfold wAt
    rw [hs, hs0, first_back]
    exact num_back _ (by omega) (by omega)
  have eW : ∀ i, i < vs.length → wAt s (8 + 8 * i) = vs.getD i 0 := fun i hi => by
    unfold wAt
    rw [hs, hs0, word_back t vs i vs.length _ hi]
    exact num_back _ (getD_i64 vs hv i).1 (getD_i64 vs hv i).2
  have eT : wAt s 0 - 1 = t := by omega
  have eV : valsR s (kd xs (wAt s 0 - 1)).size = vs := by
    rw [eT, hksz]
    apply List.ext_getElem
    · rw [valsR_len]
    · intro i q1 q2
      have e : (valsR s vs.length)[i]'q1 = wAt s (8 + 8 * i) := by simp [valsR]
      rw [e, eW i q2, List.getD_eq_getElem?_getD, List.getElem?_eq_getElem q2]
      rfl
  have hto : typesOk xs = true := by
    unfold objOkB at h
    rw [Bool.and_eq_true, Bool.and_eq_true] at h
    exact h.1.1
  have hge : 8 ≤ s.size := by rw [hs, hs0, ByteArray.size_append, wordsK_size]; omega
  have hB : roB xs s = true := by
    unfold roB preB markB
    rw [eV, eT, ← hs, hto, hsz, e0]
    simp
    omega
  rw [← hs]
  refine ⟨hsz, hB, ?_, ?_⟩
  · unfold roT; rw [if_pos hB]; exact eT
  · unfold roV; rw [if_pos hB]; exact eV
theorem ro_empty (xs : List ByteArray) : roB xs ⟨#[]⟩ = false := by
  refine ro_pre ?_
  unfold preB
  have : decide (8 ≤ (⟨#[]⟩ : ByteArray).size) = false := by decide
  rw [this]
  simp
theorem obj_none {xs : List ByteArray} {t : Int} {vs : List Int} (h : objOkB xs t vs = false) : objStr xs t vs = ⟨#[]⟩ := by
  unfold objStr
  rw [h]
  exact if_neg (by decide)
/-- What is read, written again, has just its bytes. -/
theorem ro_again {xs : List ByteArray} {s : ByteArray} (h : roB xs s = true) : objStr xs (roT xs s) (roV xs s) = s := by
  unfold roT roV
  rw [if_pos h, if_pos h]
  unfold roB at h
  rw [Bool.and_eq_true] at h
  have h2 := h.2
  simp at h2
  exact wb.bytes_of (by rw [← ByteArray.toList_eq, ← ByteArray.toList_eq]; exact h2)
theorem objStr_le (xs : List ByteArray) (t : Int) (vs : List Int) : (objStr xs t vs).size ≤ 192 := by
  cases h : objOkB xs t vs with
  | false => rw [obj_none h]; show 0 ≤ 192; omega
  | true =>
    obtain ⟨p, hp, hpl, hp12, hkd, hty, hlen, h23, h1⟩ := objOk_in h
    have hs0 : objStr xs t vs = wordsK t vs vs.length ++ nulls (padN (kd xs t)) := by unfold objStr; exact if_pos h
    have hksz : (kd xs t).size = vs.length := by rw [hkd, hlen]
    rw [hs0, ByteArray.size_append, wordsK_size, nulls_size]
    unfold padN
    rw [hksz]
    omega
theorem roV_wf (xs : List ByteArray) (s : ByteArray) : ∀ x ∈ roV xs s, x < 9223372036854775808 := by
  unfold roV
  split
  · exact valsR_lt _ _
  · intro x hx; cases hx
end Go.Proofs.Ytnacdfoejmjlgaa.obj
