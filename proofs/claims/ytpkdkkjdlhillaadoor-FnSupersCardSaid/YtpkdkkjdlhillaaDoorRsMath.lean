/-
  What a superblock's line says, as numbers and kinds; when it is told back.
-/
import Derived.Test.YtpkdkkjdlhillaaDoorKof
import Derived.Test.YtpkdkkjdlhillaaDoorTxt
namespace Go.Proofs.YtpkdkkjdlhillaaDoor.crc
open Go.RowKit
open wmath wb num kinds txt

def byteN (s : ByteArray) (p : Nat) : Nat := (s.data.toList.getD p 0).toNat
theorem byteN_lt (s : ByteArray) (p : Nat) : byteN s p < 256 := UInt8.toNat_lt _
theorem byteN_at (s : ByteArray) (p : Nat) (h : p < s.size) : s[p].toNat = byteN s p := by
  unfold byteN
  congr 1
  rw [List.getD_eq_getElem?_getD, List.getElem?_eq_getElem (by simpa using h)]
  rfl
def maskS (s : ByteArray) (p : Nat) : Nat := byteN s (p + 1) * 65536 + byteN s (p + 2) * 256 + byteN s (p + 3)
theorem maskS_lt (s : ByteArray) (p : Nat) : maskS s p < 16777216 := by
  unfold maskS
  have := byteN_lt s (p + 1); have := byteN_lt s (p + 2); have := byteN_lt s (p + 3)
  omega
def supN (s : ByteArray) (p : Nat) : Int := (num (s.extract p (p + 2)).data.toList : Nat)
def cntS (s : ByteArray) : Nat := byteN s 10
def kindI (s : ByteArray) (i : Nat) : ByteArray := kindsS (byteN s (11 + 4 * i)) (maskS s (11 + 4 * i))
def kindT (s : ByteArray) (i : Nat) : ByteArray := kindsS (min (byteN s (11 + 4 * i)) 24) (maskS s (11 + 4 * i))
def listI (s : ByteArray) (n : Nat) : List ByteArray := (List.range n).map (kindI s)
def listT (s : ByteArray) (n : Nat) : List ByteArray := (List.range n).map (kindT s)
theorem listI_len (s : ByteArray) (n : Nat) : (listI s n).length = n := by simp [listI]
theorem listT_len (s : ByteArray) (n : Nat) : (listT s n).length = n := by simp [listT]
theorem listI_succ (s : ByteArray) (n : Nat) : listI s (n + 1) = listI s n ++ [kindI s n] := by simp [listI, List.range_succ]
theorem listT_succ (s : ByteArray) (n : Nat) : listT s (n + 1) = listT s n ++ [kindT s n] := by simp [listT, List.range_succ]
def supXs (s : ByteArray) : List ByteArray := listT s (min (cntS s) 12)
def supStr (s : ByteArray) : ByteArray := superStr (supN s 4) (supN s 6) (supN s 8) (supXs s)
def supB (s : ByteArray) : Bool := (supStr s).toList == s.toList
theorem conf_bad {n1 n2 n3 : Int} {xs : List ByteArray} (i : Nat) (hi : i < xs.length) (h : 24 ≤ xs[i].size) : configOk n1 n2 n3 xs = false := by
  cases hc : configOk n1 n2 n3 xs with
  | false => rfl
  | true =>
    have := isType_size ((conf_in hc).2.2.2.2 i hi)
    omega
theorem lists_same (s : ByteArray) (n : Nat) (h : ∀ i, i < n → byteN s (11 + 4 * i) ≤ 24) : listI s n = listT s n := by
  unfold listI listT
  apply List.map_congr_left
  intro i hi
  unfold kindI kindT
  rw [Nat.min_eq_left (h i (List.mem_range.1 hi))]
theorem conf_same (s : ByteArray) (n : Nat) (n1 n2 n3 : Int) : configOk n1 n2 n3 (listI s n) = configOk n1 n2 n3 (listT s n) ∧ (configOk n1 n2 n3 (listT s n) = true → listI s n = listT s n) := by
  by_cases h : ∀ i, i < n → byteN s (11 + 4 * i) ≤ 24
  · rw [lists_same s n h]
    exact ⟨rfl, fun _ => rfl⟩
  · have : ∃ i, i < n ∧ ¬ byteN s (11 + 4 * i) ≤ 24 := by
      apply Classical.byContradiction
      intro hn
      exact h fun i hi => Classical.byContradiction fun hb => hn ⟨i, hi, hb⟩
    obtain ⟨i, hi, hb⟩ := this
    have h1 : configOk n1 n2 n3 (listI s n) = false := conf_bad i (by rw [listI_len]; exact hi) (by
      rw [show (listI s n)[i]'(by rw [listI_len]; exact hi) = kindI s i by simp [listI]]
      unfold kindI
      rw [kindsS_size]; omega)
    have h2 : configOk n1 n2 n3 (listT s n) = false := conf_bad i (by rw [listT_len]; exact hi) (by
      rw [show (listT s n)[i]'(by rw [listT_len]; exact hi) = kindT s i by simp [listT]]
      unfold kindT
      rw [kindsS_size]; omega)
    rw [h1, h2]
    exact ⟨rfl, fun q => by cases q⟩
theorem super_same (s : ByteArray) (n : Nat) (n1 n2 n3 : Int) : superStr n1 n2 n3 (listI s n) = superStr n1 n2 n3 (listT s n) := by
  obtain ⟨h1, h2⟩ := conf_same s n n1 n2 n3
  cases hc : configOk n1 n2 n3 (listT s n) with
  | true => rw [h2 hc]
  | false =>
    unfold superStr
    rw [h1, hc, if_neg (by decide), if_neg (by decide)]
theorem supB_eq {s : ByteArray} (h : supB s = true) : supStr s = s := by
  unfold supB at h
  have h1 : (supStr s).toList = s.toList := by simpa using h
  rw [toList_data, toList_data] at h1
  exact bytes_of h1
theorem supB_conf {s : ByteArray} (h : supB s = true) (h64 : s.size = 64) : configOk (supN s 4) (supN s 6) (supN s 8) (supXs s) = true := by
  have h2 := supB_eq h
  unfold supStr superStr at h2
  split at h2
  · assumption
  · rw [← h2] at h64; cases h64
theorem supB_form {s : ByteArray} (h : supB s = true) (h64 : s.size = 64) : s = sealedStr (upTo (supN s 4) (supN s 6) (supN s 8) (supXs s) (supXs s).length) := by
  have h2 := supB_eq h
  unfold supStr superStr at h2
  rw [if_pos (supB_conf h h64)] at h2
  exact h2.symm
theorem supB_sealed {s : ByteArray} (h : supB s = true) (h64 : s.size = 64) : sealedB s = true := by
  have h2 := supB_form h h64
  have hc := conf_in (supB_conf h h64)
  rw [h2]
  exact sealed_ok _ (by rw [upTo_size _ _ _ _ _ (Nat.le_refl _)]; omega)
theorem upTo_list (n1 n2 n3 : Int) (xs : List ByteArray) (k : Nat) : ∃ R, (upTo n1 n2 n3 xs k).data.toList = (headStr n1 n2 n3).data.toList ++ ((byteStr (xs.length : Int)).data.toList ++ R) := by
  induction k with
  | zero => exact ⟨[], by rw [upTo]; simp⟩
  | succ k ih =>
    obtain ⟨R, hR⟩ := ih
    rw [upTo]
    split
    · exact ⟨R ++ (typeStr xs[k]).data.toList, by rw [ByteArray.data_append, Array.toList_append, hR]; simp⟩
    · exact ⟨R, hR⟩
theorem super_big {s : ByteArray} (h64 : s.size = 64) (h : 12 < cntS s) : supB s = false := by
  cases hb : supB s with
  | false => rfl
  | true =>
    exfalso
    have h2 := supB_form hb h64
    obtain ⟨R, hR⟩ := upTo_list (supN s 4) (supN s 6) (supN s 8) (supXs s) (supXs s).length
    have hl : (supXs s).length = 12 := by unfold supXs; rw [listT_len]; omega
    have hd : (sealedStr (upTo (supN s 4) (supN s 6) (supN s 8) (supXs s) (supXs s).length)).data.toList.getD 10 0 = 12 := by
      rw [sealed_data, padded_data, hR, hl]
      have h10 : (headStr (supN s 4) (supN s 6) (supN s 8)).data.toList.length = 10 := by
        rw [show (headStr (supN s 4) (supN s 6) (supN s 8)).data.toList.length = (headStr (supN s 4) (supN s 6) (supN s 8)).size by simp, headStr_size]
      rw [List.append_assoc, List.append_assoc, List.getD_eq_getElem?_getD, List.getElem?_append_right (by omega), h10]
      rfl
    rw [← h2] at hd
    have : cntS s = 12 := by unfold cntS byteN; rw [hd]; rfl
    omega
end Go.Proofs.YtpkdkkjdlhillaaDoor.crc
