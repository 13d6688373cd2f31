/-
  A record is told back from its own line.
-/
import Derived.Test.YthigmppalpkadaaDoorDrawRec2
namespace Go.Proofs.YthigmppalpkadaaDoor.crc
open Go.RowKit
open wmath wb num

theorem cut_list {s : ByteArray} {A B C : List UInt8} {i j : Nat} (h : s.data.toList = A ++ (B ++ C)) (hi : A.length = i) (hj : A.length + B.length = j) : s.extract i j = ⟨B.toArray⟩ := by
  apply bytes_of
  rw [Lib.extract_data, h, ← hi, ← hj]
  simp
theorem rec_list {e s h : Int} {o : ByteArray} (_ho : o.size = 32) : ∃ T : List UInt8, (sealedStr (recBody e s h o)).data.toList = [85] ++ ((byteStr s).data.toList ++ ((shortStr h).data.toList ++ ((wordStr e).data.toList ++ (o.data.toList ++ T)))) := by
  rw [sealed_data, padded_data]
  unfold recBody
  simp only [ByteArray.data_append, Array.toList_append, List.append_assoc]
  exact ⟨_, rfl⟩
theorem rec_in {e s h : Int} {o : ByteArray} (hr : recOk e s h o = true) : (recStr e s h o).size = 64 ∧ rrB (recStr e s h o) = true ∧ rrV (recStr e s h o) = .agg #[.int .i64 e, .int .i64 s, .int .i64 h, .string o] := by
  obtain ⟨⟨e0, e1⟩, ⟨s0, s1⟩, ⟨h0, h1⟩, ho⟩ := recOk_in hr
  obtain ⟨T, hT⟩ := rec_list (e := e) (s := s) (h := h) ho
  have hL : recStr e s h o = sealedStr (recBody e s h o) := by unfold recStr; rw [hr]; exact if_pos rfl
  have h64 : (sealedStr (recBody e s h o)).size = 64 := sealedStr_size _ (by rw [recBody_size _ _ _ _ ho]; omega)
  have hLB := hL
  rw [hL]
  generalize sealedStr (recBody e s h o) = L at hT h64 hLB
  have lb : (byteStr s).data.toList.length = 1 := rfl
  have ls : (shortStr h).data.toList.length = 2 := rfl
  have lw : (wordStr e).data.toList.length = 8 := rfl
  have lo : o.data.toList.length = 32 := by simpa using ho
  have p4 : L.extract 12 44 = o := by
    have := cut_list (s := L) (A := [85] ++ (byteStr s).data.toList ++ (shortStr h).data.toList ++ (wordStr e).data.toList) (B := o.data.toList) (C := T) (i := 12) (j := 44) (by rw [hT]; simp only [List.append_assoc]) (by simp only [List.length_append, lb, ls, lw]; rfl) (by simp only [List.length_append, lb, ls, lw, lo]; rfl)
    rw [this]
  have p3 : L.extract 4 12 = wordStr e := by
    have := cut_list (s := L) (A := [85] ++ (byteStr s).data.toList ++ (shortStr h).data.toList) (B := (wordStr e).data.toList) (C := o.data.toList ++ T) (i := 4) (j := 12) (by rw [hT]; simp only [List.append_assoc]) (by simp only [List.length_append, lb, ls]; rfl) (by simp only [List.length_append, lb, ls, lw]; rfl)
    rw [this]
  have p2 : L.extract 2 4 = shortStr h := by
    have := cut_list (s := L) (A := [85] ++ (byteStr s).data.toList) (B := (shortStr h).data.toList) (C := (wordStr e).data.toList ++ (o.data.toList ++ T)) (i := 2) (j := 4) (by rw [hT]; simp only [List.append_assoc]) (by simp only [List.length_append, lb]; rfl) (by simp only [List.length_append, lb, ls]; rfl)
    rw [this]
  have q4 : recOld L = o := p4
  have q3 : recEp L = e := by
    unfold recEp
    rw [p3, num_wordStr e e0 (by omega)]
    unfold wrap64
    omega
  have q2 : recHf L = h := by
    unfold recHf
    rw [p2, num_shortStr h h0 (by omega)]
  have q1 : recSq L = s := by
    have hlt : 1 < L.size := by omega
    unfold recSq
    rw [dif_pos hlt]
    have hx : L.data.toList[1]? = some (UInt8.ofNat (s % 256).toNat) := by rw [hT]; rfl
    have hy : L.data.toList[1]? = some L[1] := by
      rw [List.getElem?_eq_getElem (by simpa using hlt)]
      rfl
    rw [hy] at hx
    rw [Option.some.inj hx, byte_nat s s0]
    omega
  have hB : recB L = true := by
    unfold recB
    rw [q1, q2, q3, q4, hLB]
    simp
  have hB2 : rrB L = true := by unfold rrB; rw [decide_eq_true h64, hB]; rfl
  refine ⟨h64, hB2, ?_⟩
  unfold rrV recVal
  rw [hB2, if_pos rfl, q1, q2, q3, q4]
theorem rec_out {e s h : Int} {o : ByteArray} (hr : recOk e s h o = false) : recStr e s h o = ⟨#[]⟩ ∧ rrB (recStr e s h o) = false := by
  have hL : recStr e s h o = ⟨#[]⟩ := by unfold recStr; rw [hr]; exact if_neg (by decide)
  refine ⟨hL, ?_⟩
  rw [hL]
  rfl
theorem rr_val {t : ByteArray} : ∃ (e s h : Int) (o : ByteArray), rrV t = .agg #[.int .i64 e, .int .i64 s, .int .i64 h, .string o] ∧ o.size ≤ 1048576 ∧ (rrB t = true → recStr e s h o = t) := by
  cases hb : rrB t with
  | true =>
    refine ⟨recEp t, recSq t, recHf t, recOld t, by unfold rrV recVal; rw [hb, if_pos rfl], ?_, fun _ => rr_back hb⟩
    unfold recOld
    rw [ByteArray.size_extract]
    omega
  | false => exact ⟨0, 0, 0, ⟨#[]⟩, by unfold rrV recVal; rw [hb, if_neg (by decide)], by decide, fun q => by cases q⟩
end Go.Proofs.YthigmppalpkadaaDoor.crc
