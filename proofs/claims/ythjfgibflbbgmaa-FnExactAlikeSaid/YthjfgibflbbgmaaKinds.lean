/-
  Types of objects: whether a text is one, and how many lines an object of it needs, by the program and by the specification; the world stays.
-/
import Derived.Test.YthjfgibflbbgmaaRows
import Derived.WalkKit
import Derived.WalkSpells
import Derived.Handy
namespace Go.Proofs.Ythjfgibflbbgmaa.kinds
open Go.RowKit

theorem ret_num {k : IntKind} {a b : Int} (h : a = b) : Ending.returned (.int k a) = .returned (.int k b) := by rw [h]
def isKind (b : UInt8) : Bool := b == 105 || b == 114
def isType (s : ByteArray) : Bool := decide (1 ≤ s.size) && decide (s.size ≤ 23) && s.data.toList.all isKind
def runOf (s : ByteArray) : Int := if isType s = true then ((s.size : Int) + 8) / 8 else 0
theorem count_take (s : ByteArray) (k : Nat) (hk : k < s.size) : (s.data.toList.take (k + 1)).countP isKind = (s.data.toList.take k).countP isKind + (if isKind s[k] = true then 1 else 0) := by
  rw [List.take_succ_eq_append_getElem (by simpa using hk), List.countP_append]
  congr 1
  have : s.data.toList[k]'(by simpa using hk) = s[k] := rfl
  rw [this]
  by_cases h : isKind s[k] = true <;> simp [h]
theorem count_le (s : ByteArray) (k : Nat) : (s.data.toList.take k).countP isKind ≤ k := Nat.le_trans (List.countP_le_length) (by simp; omega)
theorem kind_byte (s : ByteArray) (k : Nat) (hk : k < s.size) : isKind s[k] = ((((s[k]).toNat : Int) == 105) || (((s[k]).toNat : Int) == 114)) := by
  unfold isKind
  have e : ∀ b : UInt8, ∀ n : Nat, n < 256 → (b == UInt8.ofNat n) = ((b.toNat : Int) == (n : Int)) := by
    intro b n hn
    rw [Bool.eq_iff_iff]
    simp only [beq_iff_eq]
    constructor
    · intro h; rw [h, UInt8.toNat_ofNat']; omega
    · intro h; apply UInt8.toNat.inj; rw [UInt8.toNat_ofNat']; omega
  have h1 := e s[k] 105 (by omega)
  have h2 := e s[k] 114 (by omega)
  show ((s[k] == UInt8.ofNat 105) || (s[k] == UInt8.ofNat 114)) = _
  rw [h1, h2]
  rfl

/-- The bits of the references among the first k fields. -/
def maskK (s : ByteArray) : Nat → Int
  | 0 => 0
  | k + 1 => if h : k < s.size then (if (s[k].toNat : Int) = 114 then bits BinOp.or IntKind.u64 (maskK s k) (IntKind.u64.wrap (2 ^ k)) else maskK s k) else maskK s k
set_option maxHeartbeats 2000000 in
theorem bits_any (s : ByteArray) (w : World) (h1 : 1 ≤ s.size) (h2 : s.size ≤ 23) :
    Calls Try.prog 83 #[.string s] w fun e w' => e = .returned (.tuple #[.int .u64 (maskK s s.size), .bool (isType s)]) ∧ w = w' := by
  go_enter Try.func83, Try.ntmps83
  go_wp2
  go_loop [4, 5, 17] (fun b f i => ∃ k : Nat, k ≤ s.size ∧ i = .int .i64 k ∧ b = .int .u64 (maskK s k) ∧ f = .int .i64 ((s.data.toList.take k).countP isKind)) (fun _ _ i => s.size - (intOf i).toNat)
  case atStart => exact ⟨0, Nat.zero_le _, rfl, rfl, rfl⟩
  case round =>
    obtain ⟨k, hk, rfl, rfl, rfl⟩ := hrel
    by_cases hlt : k < s.size
    · have hlti : (k : Int) < (s.size : Int) := by omega
      have hk0 : (0 : Int) ≤ (k : Int) := by omega
      have hk64 : (k : Int) < 64 := by omega
      have HN := count_take s k hlt
      have HB := kind_byte s k hlt
      have hle := count_le s k
      generalize (s.data.toList.take k).countP isKind = f at HN hle ⊢
      have HM : Hid (maskK s (k + 1) = if (s[k].toNat : Int) = 114 then bits BinOp.or IntKind.u64 (maskK s k) (IntKind.u64.wrap (2 ^ k)) else maskK s k) := by
        show maskK s (k + 1) = if (s[k].toNat : Int) = 114 then bits BinOp.or IntKind.u64 (maskK s k) (IntKind.u64.wrap (2 ^ k)) else maskK s k
        rw [maskK, dif_pos hlt]
      have HNN : Hid ((s.data.toList.take (k + 1)).countP isKind = f + (if isKind s[k] = true then 1 else 0)) := HN
      have HBB : Hid (isKind s[k] = (((s[k].toNat : Int) == 105) || ((s[k].toNat : Int) == 114))) := HB
      clear HN HB
      by_cases hr : (s[k].toNat : Int) = 114
      · have e1 : ((s[k].toNat : Int) == 114) = true := by simpa using hr
        have HM2 : Hid (maskK s (k + 1) = bits BinOp.or IntKind.u64 (maskK s k) (IntKind.u64.wrap (2 ^ k))) := by
          show maskK s (k + 1) = _
          rw [HM.out, if_pos hr]
        have HN2 : Hid ((s.data.toList.take (k + 1)).countP isKind = f + 1) := by
          show (s.data.toList.take (k + 1)).countP isKind = f + 1
          rw [HNN.out, HBB.out, e1]; simp
        generalize maskK s k = m at HM2 ⊢
        clear hr HM HNN HBB
        go_wp2
        refine ⟨⟨k + 1, by omega, by go_num, by rw [HM2.out], by rw [HN2.out]; go_num⟩, by simp [intOf]; omega⟩
      · have e1 : ((s[k].toNat : Int) == 114) = false := by simpa using hr
        have HM2 : Hid (maskK s (k + 1) = maskK s k) := by
          show maskK s (k + 1) = _
          rw [HM.out, if_neg hr]
        by_cases hi : (s[k].toNat : Int) = 105
        · have e2 : ((s[k].toNat : Int) == 105) = true := by simpa using hi
          have HN2 : Hid ((s.data.toList.take (k + 1)).countP isKind = f + 1) := by
            show (s.data.toList.take (k + 1)).countP isKind = f + 1
            rw [HNN.out, HBB.out, e2]; simp
          generalize maskK s k = m at HM2 ⊢
          clear hr hi HM HNN HBB
          go_wp2
          refine ⟨⟨k + 1, by omega, by go_num, by rw [HM2.out], by rw [HN2.out]; go_num⟩, by simp [intOf]; omega⟩
        · have e2 : ((s[k].toNat : Int) == 105) = false := by simpa using hi
          have HN2 : Hid ((s.data.toList.take (k + 1)).countP isKind = f) := by
            show (s.data.toList.take (k + 1)).countP isKind = f
            rw [HNN.out, HBB.out, e1, e2]; simp
          generalize maskK s k = m at HM2 ⊢
          clear hr hi HM HNN HBB
          go_wp2
          refine ⟨⟨k + 1, by omega, by go_num, by rw [HM2.out], by rw [HN2.out]⟩, by simp [intOf]; omega⟩
    · have hk2 : k = s.size := by omega
      subst hk2
      have ht : s.data.toList.take s.size = s.data.toList := List.take_of_length_le (by simp)
      rw [ht]
      have HT : Hid ((((s.data.toList.countP isKind : Nat) : Int) == (s.size : Int)) = isType s) := by
        show (((s.data.toList.countP isKind : Nat) : Int) == (s.size : Int)) = isType s
        unfold isType
        rw [decide_eq_true h1, decide_eq_true h2, Bool.eq_iff_iff]
        simp only [beq_iff_eq, Bool.true_and, List.all_eq_true]
        have hlen : s.data.toList.length = s.size := by simp
        rw [← hlen]
        constructor
        · intro h; exact List.countP_eq_length.1 (by omega)
        · intro h; rw [List.countP_eq_length.2 h]
      generalize s.data.toList.countP isKind = f at HT ⊢
      go_wp2
      go_ret2
      exact ⟨by rw [← HT.out]; rfl, rfl⟩
theorem bits_no (s : ByteArray) (w : World) (hs : s.size ≤ 1048576) (h : ¬ (1 ≤ s.size ∧ s.size ≤ 23)) :
    Calls Try.prog 83 #[.string s] w fun e w' => e = .returned (.tuple #[.int .u64 0, .bool false]) ∧ w = w' := by
  by_cases h1 : 1 ≤ s.size
  · have h2 : ¬ (s.size : Int) ≤ 23 := by omega
    have h3 : ¬ (s.size : Int) < 1 := by omega
    go_enter Try.func83, Try.ntmps83
    go_wp2
    go_ret2
    exact ⟨rfl, rfl⟩
  · have h3 : (s.size : Int) < 1 := by omega
    go_enter Try.func83, Try.ntmps83
    go_wp2
    go_ret2
    exact ⟨rfl, rfl⟩
theorem isType_no (s : ByteArray) (h : ¬ (1 ≤ s.size ∧ s.size ≤ 23)) : isType s = false := by
  unfold isType
  have : (decide (1 ≤ s.size) && decide (s.size ≤ 23)) = false := by simp; omega
  rw [this]
  rfl
/-- Whatever the text is. -/
theorem bits_both (s : ByteArray) (w : World) (hs : s.size ≤ 1048576) :
    Calls Try.prog 83 #[.string s] w fun e w' => ∃ m, e = .returned (.tuple #[.int .u64 m, .bool (isType s)]) ∧ w = w' := by
  by_cases h : 1 ≤ s.size ∧ s.size ≤ 23
  · exact (bits_any s w h.1 h.2).mono fun _ _ ⟨he, hw⟩ => ⟨_, he, hw⟩
  · rw [isType_no s h]
    exact (bits_no s w hs h).mono fun _ _ ⟨he, hw⟩ => ⟨_, he, hw⟩
theorem isType_size {s : ByteArray} (h : isType s = true) : 1 ≤ s.size ∧ s.size ≤ 23 := by
  unfold isType at h
  simp at h
  omega
theorem impl_run (s : ByteArray) (w : World) (hs : s.size ≤ 1048576) :
    Calls Try.prog 54 #[.string s] w fun e w' => e = .returned (.int .i64 (runOf s)) ∧ w = w' := by
  have HB : Hid (∀ w, Calls _ _ _ w _) := fun w => bits_both s w hs
  by_cases h : isType s = true
  · have hr : runOf s = ((s.size : Int) + 8) / 8 := by unfold runOf; rw [if_pos h]
    obtain ⟨h1, h2⟩ := isType_size h
    rw [h] at HB
    clear h
    go_enter Try.func54, Try.ntmps54
    go_wp2_with fail
    refine (HB.out _).mono ?_
    rintro e w' ⟨m, rfl, rfl⟩
    go_wp2
    go_ret
    exact ⟨ret_num (by rw [hr]; omega), rfl⟩
  · have hr : runOf s = 0 := by unfold runOf; rw [if_neg h]
    rw [hr]
    rw [show isType s = false by simpa using h] at HB
    clear h hr
    go_enter Try.func54, Try.ntmps54
    go_wp2_with fail
    refine (HB.out _).mono ?_
    rintro e w' ⟨m, rfl, rfl⟩
    go_wp2
    go_ret
    exact ⟨rfl, rfl⟩
theorem all_take (s : ByteArray) (k : Nat) (hk : k < s.size) : (s.data.toList.take (k + 1)).all isKind = ((s.data.toList.take k).all isKind && isKind s[k]) := by
  rw [List.take_succ_eq_append_getElem (by simpa using hk), List.all_append]
  have : s.data.toList[k]'(by simpa using hk) = s[k] := rfl
  rw [this]
  simp
theorem all_no {s : ByteArray} {k : Nat} (h : (s.data.toList.take k).all isKind = false) : s.data.toList.all isKind = false := by
  rw [← List.take_append_drop k s.data.toList, List.all_append, h]
  rfl
theorem kIn_any (w : World) (x lo hi : Int) :
    Calls Try.prog 63 #[.int .i64 x, .int .i64 lo, .int .i64 hi] w fun e w' => e = .returned (.bool (decide (lo ≤ x) && decide (x ≤ hi))) ∧ w = w' := by
  by_cases h : lo ≤ x
  · have hd : decide (lo ≤ x) = true := by simpa using h
    rw [hd]
    go_enter Try.func63, Try.ntmps63
    go_wp2
    go_ret
    exact ⟨by simp, rfl⟩
  · have hd : decide (lo ≤ x) = false := by simpa using h
    rw [hd]
    go_enter Try.func63, Try.ntmps63
    go_wp2
    go_ret
    exact ⟨rfl, rfl⟩
set_option maxHeartbeats 2000000 in
theorem l3Type_any (s : ByteArray) (w : World) (hs : s.size ≤ 1048576) :
    Calls Try.prog 82 #[.string s] w fun e w' => e = .returned (.bool (isType s)) ∧ w = w' := by
  have HI : Hid (∀ w, Calls _ _ _ w _) := fun w => kIn_any w (s.size : Int) 1 23
  go_enter Try.func82, Try.ntmps82
  go_wp2
  go_loop [3] (fun i => ∃ k : Nat, k ≤ s.size ∧ i = .int .i64 k ∧ (s.data.toList.take k).all isKind = true) (fun i => s.size - (intOf i).toNat)
  case atStart => exact ⟨0, Nat.zero_le _, rfl, rfl⟩
  case round =>
    obtain ⟨k, hk, rfl, hall⟩ := hrel
    by_cases hlt : k < s.size
    · have hlti : (k : Int) < (s.size : Int) := by omega
      have hk0 : (0 : Int) ≤ (k : Int) := by omega
      have HA : Hid ((s.data.toList.take (k + 1)).all isKind = (((s[k].toNat : Int) == 105) || ((s[k].toNat : Int) == 114))) := by
        show (s.data.toList.take (k + 1)).all isKind = _
        rw [all_take s k hlt, hall, Bool.true_and, kind_byte s k hlt]
      clear hall
      by_cases hi : (s[k].toNat : Int) = 105
      · have e1 : ((s[k].toNat : Int) != 105) = false := by simpa using hi
        have HA2 : Hid ((s.data.toList.take (k + 1)).all isKind = true) := by
          show (s.data.toList.take (k + 1)).all isKind = true
          rw [HA.out]; simp [hi]
        clear hi HA
        go_wp2
        exact ⟨⟨k + 1, by omega, by go_num, HA2.out⟩, by simp [intOf]; omega⟩
      · have e1 : ((s[k].toNat : Int) != 105) = true := by simpa using hi
        by_cases hr : (s[k].toNat : Int) = 114
        · have e2 : ((s[k].toNat : Int) != 114) = false := by simpa using hr
          have HA2 : Hid ((s.data.toList.take (k + 1)).all isKind = true) := by
            show (s.data.toList.take (k + 1)).all isKind = true
            rw [HA.out]; simp [hr]
          clear hi hr HA
          go_wp2
          exact ⟨⟨k + 1, by omega, by go_num, HA2.out⟩, by simp [intOf]; omega⟩
        · have e2 : ((s[k].toNat : Int) != 114) = true := by simpa using hr
          have HA2 : Hid (isType s = false) := by
            show isType s = false
            have : (s.data.toList.take (k + 1)).all isKind = false := by rw [HA.out]; simp [hi, hr]
            unfold isType
            rw [all_no this]; simp
          clear hi hr HA
          go_wp2
          go_ret
          exact ⟨by rw [HA2.out]; rfl, rfl⟩
    · have hk2 : k = s.size := by omega
      subst hk2
      rw [List.take_of_length_le (by simp)] at hall
      have HT : Hid ((decide ((1 : Int) ≤ (s.size : Int)) && decide ((s.size : Int) ≤ 23)) = isType s) := by
        show (decide ((1 : Int) ≤ (s.size : Int)) && decide ((s.size : Int) ≤ 23)) = isType s
        unfold isType
        rw [hall, Bool.and_true]
        congr 1 <;> rw [decide_eq_decide] <;> omega
      rw [HT.out] at HI
      clear hall HT
      go_wp2_with fail
      refine (HI.out _).mono ?_
      rintro e w' ⟨rfl, rfl⟩
      go_wp2
      go_ret
      exact ⟨rfl, rfl⟩
theorem spec_run (s : ByteArray) (w : World) (hs : s.size ≤ 1048576) :
    Calls Try.prog 53 #[.string s] w fun e w' => e = .returned (.int .i64 (runOf s)) ∧ w = w' := by
  have HB : Hid (∀ w, Calls _ _ _ w _) := fun w => l3Type_any s w hs
  by_cases h : isType s = true
  · have hr : runOf s = ((s.size : Int) + 8) / 8 := by unfold runOf; rw [if_pos h]
    obtain ⟨h1, h2⟩ := isType_size h
    rw [h] at HB
    clear h
    go_enter Try.func53, Try.ntmps53
    go_wp2_with fail
    refine (HB.out _).mono ?_
    rintro e w' ⟨rfl, rfl⟩
    go_wp2
    go_ret
    exact ⟨ret_num (by rw [hr]; omega), rfl⟩
  · have hr : runOf s = 0 := by unfold runOf; rw [if_neg h]
    rw [hr]
    rw [show isType s = false by simpa using h] at HB
    clear h hr
    go_enter Try.func53, Try.ntmps53
    go_wp2_with fail
    refine (HB.out _).mono ?_
    rintro e w' ⟨rfl, rfl⟩
    go_wp2
    go_ret
    exact ⟨rfl, rfl⟩
end Go.Proofs.Ythjfgibflbbgmaa.kinds
