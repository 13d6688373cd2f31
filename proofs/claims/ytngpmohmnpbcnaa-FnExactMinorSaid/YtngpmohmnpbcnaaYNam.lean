/-
  What an open nursery may name, and the object of a reference, by the program.
-/
import Derived.Test.YtngpmohmnpbcnaaYMap
namespace Go.Proofs.Ytngpmohmnpbcnaa.nu
open Go.RowKit Go.Maps
open kinds ints ref obj

theorem yt1 (w : World) : (Instr.typeAssert (.iface 113 (.agg #[])) 86 113 true).run Try.prog w = .ok (.tuple #[.agg #[], .bool true]) w := by kernel_rfl
theorem yt1o (w : World) : (Instr.typeAssert (.iface 113 (.agg #[])) 86 114 true).run Try.prog w = .ok (.tuple #[.int .i64 0, .bool false]) w := by kernel_rfl
theorem yt1y (w : World) : (Instr.typeAssert (.iface 113 (.agg #[])) 86 69 true).run Try.prog w = .ok (.tuple #[.int .i64 0, .bool false]) w := by kernel_rfl
theorem yt2 (n : Int) (w : World) : (Instr.typeAssert (.iface 114 (.int .i64 n)) 86 113 true).run Try.prog w = .ok (.tuple #[.agg #[], .bool false]) w := by kernel_rfl
theorem yt3 (n : Int) (w : World) : (Instr.typeAssert (.iface 114 (.int .i64 n)) 86 114 true).run Try.prog w = .ok (.tuple #[.int .i64 n, .bool true]) w := by kernel_rfl
theorem yt3y (n : Int) (w : World) : (Instr.typeAssert (.iface 114 (.int .i64 n)) 86 69 true).run Try.prog w = .ok (.tuple #[.int .i64 0, .bool false]) w := by kernel_rfl
theorem yt4 (n : Int) (w : World) : (Instr.typeAssert (.iface 69 (.int .i64 n)) 86 113 true).run Try.prog w = .ok (.tuple #[.agg #[], .bool false]) w := by kernel_rfl
theorem yt5 (n : Int) (w : World) : (Instr.typeAssert (.iface 69 (.int .i64 n)) 86 114 true).run Try.prog w = .ok (.tuple #[.int .i64 0, .bool false]) w := by kernel_rfl
theorem yt6 (n : Int) (w : World) : (Instr.typeAssert (.iface 69 (.int .i64 n)) 86 69 true).run Try.prog w = .ok (.tuple #[.int .i64 n, .bool true]) w := by kernel_rfl
theorem yt7 (w : World) : (Instr.typeAssert (.iface 115 (.agg #[])) 86 113 true).run Try.prog w = .ok (.tuple #[.agg #[], .bool false]) w := by kernel_rfl
theorem yt8 (w : World) : (Instr.typeAssert (.iface 115 (.agg #[])) 86 114 true).run Try.prog w = .ok (.tuple #[.int .i64 0, .bool false]) w := by kernel_rfl
theorem yt9 (w : World) : (Instr.typeAssert (.iface 115 (.agg #[])) 86 69 true).run Try.prog w = .ok (.tuple #[.int .i64 0, .bool false]) w := by kernel_rfl
theorem named_nothing (L : List Nat) : namedB L 0 = true := by simp [namedB, refKind]
theorem named_old (L : List Nat) (n : Nat) (h0 : 1 ≤ n) (h1 : n ≤ 127) : namedB L (2 * (n : Int)) = true := by
  have : refKind (2 * (n : Int)) = 1 := by unfold refKind; rw [if_neg (by omega), if_pos (by omega)]
  simp [namedB, this]
theorem named_young (L : List Nat) (n : Nat) (h1 : n ≤ 399) : namedB L (2 * (n : Int) + 1) = inB L (n : Int) := by
  have : refKind (2 * (n : Int) + 1) = 2 := by unfold refKind; rw [if_neg (by omega), if_neg (by omega), if_pos (by omega)]
  have e : (2 * (n : Int) + 1) / 2 = (n : Int) := by omega
  simp [namedB, this, e]
theorem named_stranger (L : List Nat) (r : Int) (h : r < 0 ∨ (254 < r ∧ r % 2 = 0) ∨ (799 < r ∧ r % 2 = 1)) : namedB L r = false := by
  have : refKind r = -1 := by unfold refKind; rw [if_neg (by omega), if_neg (by omega), if_neg (by omega)]
  simp [namedB, this]
theorem inB_nat (L : List Nat) (n : Nat) : inB L (n : Int) = true ↔ n ∈ L := by simp [inB]
set_option maxHeartbeats 2000000 in
set_option maxRecDepth 20000 in
theorem mayName_any (w : World) (T S m : Value) (B : Nat) (xs : List ByteArray) (ws : List Int) (L : List Nat) (r : Int) (hr : r < 9223372036854775808) (hm : Looks w B m xs ws L) :
    Calls Try.prog 99 #[.agg #[T, S, m], .int .i64 r] w fun e w' => e = .returned (.bool (namedB L r)) ∧ Below w.heap.size w w' := by
  obtain ⟨W, hW⟩ : ∃ W, W = w.alloc (.cells #[T, S, m] 60) := ⟨_, rfl⟩
  have HW : Hid (W = w.alloc (.cells #[T, S, m] 60)) := hW
  have hb0 : Below w.heap.size w W := by rw [hW]; exact (Below.refl _ _).alloc (Nat.le_refl _) _
  have HT : Hid (Tri w.heap.size T S m W) := by rw [hW]; exact Tri.start w _ _ _ _
  have HB0 : Hid (Below w.heap.size w W) := hb0
  have HM : Hid (Looks W B m xs ws L) := hm.below hb0
  have HRF : Hid (∀ w', w' = W → Calls _ _ _ w' _) := fun w' _ => referenceOf_any r w' hr
  obtain ⟨res, hres⟩ : ∃ x, x = namedB L r := ⟨_, rfl⟩
  rw [← hres]
  have HRS : Hid (res = namedB L r) := hres
  clear hW hm hb0 hres
  go_enter Try.func99, Try.ntmps99
  go_wp2_with fail
  rw [← HW.out]
  refine (HRF.out W rfl).mono ?_
  rintro e w2 ⟨v, rfl, hv, hb2⟩
  have HB2 : Hid (Below w.heap.size w w2) := HB0.out.trans (hb2.mono HB0.out.size)
  have HM2 : Hid (Looks w2 B m xs ws L) := HM.out.below hb2
  have HT2 : Hid (Tri w.heap.size T S m w2) := HT.out.below hb2
  have m2 := HT2.out.c2
  have h1 := yt1; have h1o := yt1o; have h1y := yt1y; have h2 := yt2; have h3 := yt3; have h3y := yt3y; have h4 := yt4; have h5 := yt5; have h6 := yt6; have h7 := yt7; have h8 := yt8; have h9 := yt9
  clear hb2
  cases hv with
  | nothing h =>
    have HR2 : Hid (res = true) := by show res = true; rw [HRS.out, h]; exact named_nothing L
    clear h HRS
    go_wp2
    go_ret
    exact ⟨by rw [HR2.out]; rfl, HB2.out⟩
  | old n h h0 h1' =>
    have HR2 : Hid (res = true) := by show res = true; rw [HRS.out, h]; exact named_old L n h0 h1'
    clear h HRS h0 h1'
    go_wp2
    go_ret
    exact ⟨by rw [HR2.out]; rfl, HB2.out⟩
  | young n h h1' =>
    have HR2 : Hid (res = inB L (n : Int)) := by show res = _; rw [HRS.out, h]; exact named_young L n h1'
    have hn : n ≤ 1048576 := by omega
    clear h HRS h1'
    have HBA : Hid (∀ V, Below w.heap.size w (w2.alloc V)) := fun V => HB2.out.alloc HB2.out.size _
    cases hi : inB L (n : Int) with
    | true =>
      rw [hi] at HR2
      obtain ⟨g, c, q1, _⟩ := HM2.out.get n ((inB_nat L n).1 hi) hn
      have q2 := (q1 w2 (Below.refl _ _)).2
      clear q1
      clear hi hn
      go_wp2
      go_ret
      exact ⟨by rw [HR2.out]; rfl, HBA.out _⟩
    | false =>
      rw [hi] at HR2
      have q2 := HM2.out.miss (n : Int) hi (word_wf n hn)
      clear hi hn
      go_wp2
      go_ret
      exact ⟨by rw [HR2.out]; rfl, HBA.out _⟩
  | stranger h =>
    have HR2 : Hid (res = false) := by show res = false; rw [HRS.out]; exact named_stranger L r h
    clear h HRS
    go_wp2
    go_ret
    exact ⟨by rw [HR2.out]; rfl, HB2.out⟩
set_option maxHeartbeats 2000000 in
set_option maxRecDepth 20000 in
theorem allNamed_any (w : World) (T S m : Value) (B : Nat) (xs : List ByteArray) (ws : List Int) (L : List Nat) (a : Option Addr) (n cap : Nat) (rs : List Int) (hx : rs.length = n) (hn : n ≤ 1048576) (hl : Nums w a rs) (hr : ∀ x ∈ rs, x < 9223372036854775808) (hm : Looks w B m xs ws L) :
    Calls Try.prog 70 #[.agg #[T, S, m], .slice a n cap] w fun e w' => e = .returned (.bool (allNamedB L rs)) ∧ Below w.heap.size w w' := by
  subst hx
  obtain ⟨W, hW⟩ : ∃ W, W = w.alloc (.cells #[T, S, m] 60) := ⟨_, rfl⟩
  have HW : Hid (W = w.alloc (.cells #[T, S, m] 60)) := hW
  have hb0 : Below w.heap.size w W := by rw [hW]; exact (Below.refl _ _).alloc (Nat.le_refl _) _
  have hT0 : Tri w.heap.size T S m W := by rw [hW]; exact Tri.start w _ _ _ _
  have HT : Hid (∀ w', Below W.heap.size W w' → Tri w.heap.size T S m w') := fun w' h => hT0.below h
  have HB0 : Hid (Below w.heap.size w W) := hb0
  have hm1 := hm.below hb0
  have hl1 := hl.below hb0
  have HM : Hid (∀ w', Below W.heap.size W w' → Looks w' B m xs ws L) := fun w' h => hm1.below h
  have HN : Hid (∀ w', Below W.heap.size W w' → Nums w' a rs) := fun w' h => hl1.below h
  have HV : Hid (∀ x ∈ rs, x < 9223372036854775808) := hr
  obtain ⟨res, hres⟩ : ∃ x, x = allNamedB L rs := ⟨_, rfl⟩
  rw [← hres]
  have HRS : Hid (res = allNamedB L rs) := hres
  clear hW hm hl hb0 hres hT0 hm1 hl1 hr
  go_enter Try.func70, Try.ntmps70
  go_wp2
  go_loopw [9] (fun i wr => ∃ k : Nat, k ≤ rs.length ∧ i = .int .i64 (k : Int) ∧ allNamedB L (rs.take k) = true ∧ Below W.heap.size W wr) (fun i _ => rs.length - (intOf i).toNat)
  case atStart => exact ⟨0, Nat.zero_le _, rfl, rfl, by rw [← HW.out]; exact Below.refl _ _⟩
  case round =>
    obtain ⟨k, hk, rfl, hok, hb⟩ := hrel
    have HB : Hid (Below W.heap.size W wr) := hb
    have HOK : Hid (allNamedB L (rs.take k) = true) := hok
    clear hb hok
    by_cases hlt : k < rs.length
    · have hlti : (k : Int) < (rs.length : Int) := by omega
      obtain ⟨b, off, rfl, c0⟩ := HN.out wr HB.out k hlt
      obtain ⟨m0, m1, m2, _⟩ := HT.out wr HB.out
      have HTK : Hid (allNamedB L (rs.take (k + 1)) = (allNamedB L (rs.take k) && namedB L rs[k])) := by
        show allNamedB L (rs.take (k + 1)) = _
        rw [List.take_succ_eq_append_getElem hlt, allNamed_snoc]
      have HMY : Hid (Calls _ _ _ wr _) := mayName_any wr T S m B xs ws L rs[k] (HV.out _ (List.getElem_mem _)) (HM.out wr HB.out)
      generalize rs[k] = x at c0 HTK HMY
      cases hp : namedB L x with
      | false =>
        rw [hp] at HMY
        have HR2 : Hid (res = false) := by
          show res = false
          rw [HRS.out]; exact allNamed_no (k := k + 1) (by rw [HTK.out, hp]; simp)
        clear hp HTK
        go_wp2_with fail
        refine (HMY.out).mono ?_
        rintro e w2 ⟨rfl, hb2⟩
        have HB2 : Hid (Below W.heap.size W w2) := HB.out.trans (hb2.mono HB.out.size)
        clear hb2
        go_wp2
        go_ret
        exact ⟨by rw [HR2.out]; rfl, HB0.out.trans (HB2.out.mono HB0.out.size)⟩
      | true =>
        rw [hp] at HMY
        have HOK2 : Hid (allNamedB L (rs.take (k + 1)) = true) := by
          show allNamedB L (rs.take (k + 1)) = true
          rw [HTK.out, HOK.out, hp]; rfl
        clear hp HTK
        go_wp2_with fail
        refine (HMY.out).mono ?_
        rintro e w2 ⟨rfl, hb2⟩
        have HB2 : Hid (Below W.heap.size W w2) := HB.out.trans (hb2.mono HB.out.size)
        clear hb2
        go_wp2
        go_roundw
        case rel => exact ⟨k + 1, by omega, by go_num, HOK2.out, HB2.out⟩
        case measure => simp [intOf]; omega
    · obtain rfl : k = rs.length := by omega
      have HR2 : Hid (res = true) := by
        show res = true
        have := HOK.out
        rw [List.take_length] at this
        rw [HRS.out, this]
      go_wp2
      go_ret
      exact ⟨by rw [HR2.out]; rfl, HB0.out.trans (HB.out.mono HB0.out.size)⟩
theorem size_any (w : World) (g t : Int) (a : Option Addr) (n c : Nat) (hn : n ≤ 1048576) :
    Calls Try.prog 69 #[.agg #[.int .i64 g, .int .i64 t, .slice a n c]] w fun e w' => e = .returned (.int .i64 (1 + (n : Int))) ∧ Below w.heap.size w w' := by
  go_enter Try.func69, Try.ntmps69
  go_wp2
  go_ret
  exact ⟨rfl, (Below.refl _ _).alloc (Nat.le_refl _) _⟩
end Go.Proofs.Ytngpmohmnpbcnaa.nu
