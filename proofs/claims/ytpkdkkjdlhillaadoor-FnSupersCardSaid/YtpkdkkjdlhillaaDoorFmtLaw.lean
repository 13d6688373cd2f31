/-
  What the laws of configs ask: whether two are the same; what stands in a formatted image.
-/
import Derived.Test.YtpkdkkjdlhillaaDoorConfOf
import Derived.Test.YtpkdkkjdlhillaaDoorSupMath
import Derived.Test.YtpkdkkjdlhillaaDoorFormat
namespace Go.Proofs.YtpkdkkjdlhillaaDoor.crc
open Go.RowKit
open wmath wb num kinds ints txt

theorem sameTypes_same (w : World) (a b : Option Addr) (ca cb : Nat) (xs : List ByteArray) (hn : xs.length ≤ 1048576) (ha : Strs w a xs) (hb : Strs w b xs) :
    Calls Tryd.prog 43 #[.slice a xs.length ca, .slice b xs.length cb] w fun e w' => e = .returned (.bool true) ∧ Below w.heap.size w w' := by
  have HA : Hid (Strs w a xs) := ha
  have HBb : Hid (Strs w b xs) := hb
  clear ha hb
  have hne : ((xs.length : Int) != (xs.length : Int)) = false := by simp
  go_enter Tryd.func43, Tryd.ntmps43
  go_wp2
  go_loopw [5] (fun i wr => ∃ k : Nat, k ≤ xs.length ∧ i = .int .i64 k ∧ Below w.heap.size w wr) (fun i _ => xs.length - (intOf i).toNat)
  case atStart => exact ⟨0, Nat.zero_le _, rfl, Below.refl _ _⟩
  case round =>
    obtain ⟨k, hk, rfl, hb⟩ := hrel
    have HB : Hid (Below w.heap.size w wr) := hb
    clear hb
    by_cases hlt : k < xs.length
    · obtain ⟨b1, o1, rfl, c0⟩ := HA.out.below HB.out k hlt
      obtain ⟨b2, o2, rfl, d0⟩ := HBb.out.below HB.out k hlt
      generalize xs[k] = x at c0 d0
      have hx : (x.toList == x.toList) = true := by simp
      have hlt' : (k : Int) < (xs.length : Int) := by omega
      have HD : Hid (Below w.heap.size w wr.drew) := HB.out.drew
      go_wp2
      go_region
      all_goals
        go_wp2
        go_roundw
        case rel => exact ⟨k + 1, by omega, by go_num, HD.out⟩
        case measure => simp [intOf]; omega
    · go_wp2
      go_ret
      exact ⟨rfl, HB.out⟩
set_option maxHeartbeats 1000000 in
theorem sameConfig_same (w : World) (n1 n2 n3 : Int) (a b : Option Addr) (n ca cb : Nat) (xs : List ByteArray) (hx : xs.length = n) (hn : xs.length ≤ 1048576) (ha : Strs w a xs) (hb : Strs w b xs) :
    Calls Tryd.prog 13 #[.agg #[.int .i64 n1, .int .i64 n2, .int .i64 n3, .slice a n ca], .agg #[.int .i64 n1, .int .i64 n2, .int .i64 n3, .slice b n cb]] w fun e w' => e = .returned (.bool true) ∧ Below w.heap.size w w' := by
  subst hx
  obtain ⟨W, hW⟩ : ∃ W, W = (w.alloc (.cells #[.int .i64 n1, .int .i64 n2, .int .i64 n3, .slice a xs.length ca] 26)).alloc (.cells #[.int .i64 n1, .int .i64 n2, .int .i64 n3, .slice b xs.length cb] 26) := ⟨_, rfl⟩
  have HW : Hid (W = (w.alloc (.cells #[.int .i64 n1, .int .i64 n2, .int .i64 n3, .slice a xs.length ca] 26)).alloc (.cells #[.int .i64 n1, .int .i64 n2, .int .i64 n3, .slice b xs.length cb] 26)) := hW
  have hb0 : Below w.heap.size w W := by rw [hW]; exact ((Below.refl _ _).alloc (Nat.le_refl _) _).alloc (by simp) _
  have HB0 : Hid (Below w.heap.size w W) := hb0
  have HS : Hid (Calls _ _ _ W _) := sameTypes_same W a b ca cb xs hn (ha.below hb0) (hb.below hb0)
  have x1 : (n1 == n1) = true := by simp
  have x2 : (n2 == n2) = true := by simp
  have x3 : (n3 == n3) = true := by simp
  clear ha hb hW hb0
  go_enter Tryd.func13, Tryd.ntmps13
  go_wp2_with fail
  rw [← HW.out]
  refine HS.out.mono ?_
  rintro e w' ⟨rfl, hb⟩
  have HB1 : Hid (Below w.heap.size w w') := HB0.out.trans (hb.mono HB0.out.size)
  clear hb
  go_wp2
  go_ret
  exact ⟨rfl, HB1.out⟩
theorem epoch_at {e : Int} (h : 0 ≤ e ∧ e ≤ 1000000000) : epochAt (epochStr e) = e := by
  unfold epochAt
  have h1 : epochStr e = sealedStr (wordStr e) := by unfold epochStr; rw [if_pos h]
  have h2 : (sealedStr (wordStr e)).extract 0 8 = wordStr e := by
    have h3 := sealed_head (wordStr e) (word8 e)
    have h4 := padded_front (wordStr e)
    rw [wordStr_size] at h4
    rw [← cut_cut, h3]
    exact h4
  rw [h1, h2]
  have hn := num_wordStr e h.1 (by omega)
  rw [hn]
  unfold wrap64
  omega
theorem epoch_size {e : Int} (h : 0 ≤ e ∧ e ≤ 1000000000) : (epochStr e).size = 64 := by
  unfold epochStr
  rw [if_pos h]
  exact sealedStr_size _ (word8 e)
theorem epoch_is {e : Int} (h : 0 ≤ e ∧ e ≤ 1000000000) : epochB (epochStr e) = true ∧ epochOf (epochStr e) = e := by
  have h1 := epoch_at h
  have h3 : epochB (epochStr e) = true := by
    unfold epochB
    rw [h1]
    simp
  exact ⟨h3, by unfold epochOf; rw [if_pos h3, h1]⟩
/-- What stands in a formatted image. -/
theorem fmt_parts {n1 n2 n3 : Int} {xs : List ByteArray} (h : configOk n1 n2 n3 xs = true) : (formatStr n1 n2 n3 xs).extract 0 64 = superStr n1 n2 n3 xs ∧ (formatStr n1 n2 n3 xs).extract 64 128 = epochStr 0 ∧ ((formatStr n1 n2 n3 xs).size : Int) = 64 * n1 ∧ ∀ i (hi : i < (formatStr n1 n2 n3 xs).size), 128 ≤ i → (formatStr n1 n2 n3 xs)[i] = 0 := by
  obtain ⟨h1, _⟩ := conf_in h
  have hS : superStr n1 n2 n3 xs = sealedStr (upTo n1 n2 n3 xs xs.length) := by unfold superStr; exact if_pos h
  have h64 : (superStr n1 n2 n3 xs).size = 64 := (sup_back h).1
  have he : (epochStr 0).size = 64 := epoch_size ⟨by omega, by omega⟩
  have hF : formatStr n1 n2 n3 xs = superStr n1 n2 n3 xs ++ epochStr 0 ++ zeroStr (64 * n1 - 128).toNat := by
    unfold formatStr
    rw [if_pos h, hS]
  have hz : (zeroStr (64 * n1 - 128).toNat).size = (64 * n1 - 128).toNat := zeroStr_size _
  rw [hF]
  generalize superStr n1 n2 n3 xs = A at h64 ⊢
  generalize epochStr 0 = B at he ⊢
  have hl1 : A.data.toList.length = 64 := by simpa using h64
  have hl2 : B.data.toList.length = 64 := by simpa using he
  have hD : (A ++ B ++ zeroStr (64 * n1 - 128).toNat).data.toList = A.data.toList ++ (B.data.toList ++ (zeroStr (64 * n1 - 128).toNat).data.toList) := by
    simp only [ByteArray.data_append, Array.toList_append, List.append_assoc]
  refine ⟨?_, ?_, ?_, fun i hi h128 => ?_⟩
  · exact cutL (i := 0) (j := 64) (A := []) (B := A.data.toList) (C := B.data.toList ++ (zeroStr (64 * n1 - 128).toNat).data.toList) (by rw [hD]; rfl) rfl (by rw [hl1]; rfl)
  · exact cutL (i := 64) (j := 128) hD hl1 (by rw [hl1, hl2])
  · rw [ByteArray.size_append, ByteArray.size_append, h64, he, hz]; omega
  · have e : (A ++ B ++ zeroStr (64 * n1 - 128).toNat)[i] = (A ++ B ++ zeroStr (64 * n1 - 128).toNat).data.toList[i]'(by rw [Array.length_toList]; exact hi) := rfl
    rw [e]
    simp only [hD]
    rw [List.getElem_append_right (by omega), List.getElem_append_right (by omega)]
    unfold zeroStr strOfNums
    simp
theorem fmt_none {n1 n2 n3 : Int} {xs : List ByteArray} (h : configOk n1 n2 n3 xs = false) : formatStr n1 n2 n3 xs = ⟨#[]⟩ := by
  unfold formatStr
  rw [h]
  exact if_neg (by decide)
end Go.Proofs.YtpkdkkjdlhillaaDoor.crc
