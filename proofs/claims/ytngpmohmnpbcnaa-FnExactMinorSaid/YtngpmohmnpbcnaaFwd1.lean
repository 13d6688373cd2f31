/-
  References that are turned: the first place at which a number stands, and what stands there in another list; by the program and by the specification.
-/
import Derived.Test.YtngpmohmnpbcnaaOPut
namespace Go.Proofs.Ytngpmohmnpbcnaa.obj
open Go.RowKit
open kinds ints ref

theorem getD_at (xs : List Int) (k : Nat) (h : k < xs.length) : xs[k] = xs.getD k 0 := by
  rw [List.getD_eq_getElem?_getD, List.getElem?_eq_getElem h]; rfl
/-- The first place among the first k, or -1. -/
def seek (r : Int) (l : List Int) : Nat → Int
  | 0 => -1
  | k + 1 => if 0 ≤ seek r l k then seek r l k else if l.getD k 0 = r then (k : Int) else -1
theorem seek_in (r : Int) (l : List Int) (k : Nat) : seek r l k = -1 ∨ (0 ≤ seek r l k ∧ seek r l k < (k : Int)) := by
  induction k with
  | zero => left; rfl
  | succ k ih =>
    rw [seek]
    split
    · right; omega
    · split
      · right; omega
      · left; rfl
theorem seek_keep (r : Int) (l : List Int) (k n : Nat) (h : k ≤ n) (hs : 0 ≤ seek r l k) : seek r l n = seek r l k := by
  induction n with
  | zero => rw [show k = 0 by omega]
  | succ n ih =>
    by_cases e : k = n + 1
    · rw [e]
    · rw [seek, ih (by omega), if_pos hs]
def fwd (fr to : List Int) (r : Int) : Int := if 0 ≤ seek r fr fr.length then to.getD (seek r fr fr.length).toNat 0 else r
def fwdOkB (fr to : List Int) : Bool := ((fr.length : Int) == (to.length : Int)) && (decide ((to.length : Int) ≤ 400) && allRef to)
theorem index_any (w : World) (a : Option Addr) (cap : Nat) (fr : List Int) (r : Int) (hn : fr.length ≤ 1048576) (hl : Nums w a fr) :
    Calls Try.prog 104 #[.slice a fr.length cap, .int .i64 r] w fun e w' => e = .returned (.int .i64 (seek r fr fr.length)) ∧ w = w' := by
  have HN : Hid (Nums w a fr) := hl
  obtain ⟨res, hres⟩ : ∃ x, x = seek r fr fr.length := ⟨_, rfl⟩
  rw [← hres]
  have HR : Hid (res = seek r fr fr.length) := hres
  clear hl hres
  go_enter Try.func104, Try.ntmps104
  go_wp2
  go_loopw [8] (fun i wr => ∃ k : Nat, k ≤ fr.length ∧ i = .int .i64 (k : Int) ∧ seek r fr k = -1 ∧ w = wr) (fun i _ => fr.length - (intOf i).toNat)
  case atStart => exact ⟨0, Nat.zero_le _, rfl, rfl, rfl⟩
  case round =>
    obtain ⟨k, hk, rfl, hok, rfl⟩ := hrel
    have HOK : Hid (seek r fr k = -1) := hok
    clear hok
    by_cases hlt : k < fr.length
    · have hlti : (k : Int) < (fr.length : Int) := by omega
      obtain ⟨b, off, rfl, c0⟩ := HN.out k hlt
      rw [getD_at fr k hlt] at c0
      have HS : Hid (seek r fr (k + 1) = if fr.getD k 0 = r then (k : Int) else -1) := by
        show seek r fr (k + 1) = _
        rw [seek, HOK.out, if_neg (by omega)]
      have HK : Hid (0 ≤ seek r fr (k + 1) → seek r fr fr.length = seek r fr (k + 1)) := seek_keep r fr (k + 1) fr.length (by omega)
      generalize fr.getD k 0 = x at c0 HS
      by_cases hx : r = x
      · have he : (r == x) = true := by simpa using hx
        have HR2 : Hid (res = (k : Int)) := by
          show res = _
          have h1 := HS.out
          rw [if_pos hx.symm] at h1
          rw [HR.out, HK.out (by rw [h1]; omega), h1]
        clear hx
        go_wp2
        go_ret
        have hres := HR2.out
        subst hres
        exact ⟨rfl, rfl⟩
      · have he : (r == x) = false := by simpa using hx
        have HOK2 : Hid (seek r fr (k + 1) = -1) := by
          show seek r fr (k + 1) = -1
          rw [HS.out, if_neg (fun q => hx q.symm)]
        clear hx
        go_wp2
        go_roundw
        case rel => exact ⟨k + 1, by omega, by go_num, HOK2.out, trivial⟩
        case measure => simp [intOf]; omega
    · obtain rfl : k = fr.length := by omega
      have HR2 : Hid (res = -1) := by show res = -1; rw [HR.out, HOK.out]
      go_wp2
      go_ret
      exact ⟨by rw [HR2.out]; rfl, rfl⟩
theorem impl_fwd (w : World) (a b : Option Addr) (ca cb : Nat) (fr to : List Int) (r : Int) (hn : fr.length ≤ 1048576) (hl : fr.length = to.length) (ha : Nums w a fr) (hb : Nums w b to) :
    Calls Try.prog 83 #[.int .i64 r, .slice a fr.length ca, .slice b to.length cb] w fun e w' => e = .returned (.int .i64 (fwd fr to r)) ∧ w = w' := by
  have HI : Hid (∀ w', w' = w → Calls _ _ _ w' _) := fun w' q => index_any w' a ca fr r hn (q ▸ ha)
  have HB : Hid (Nums w b to) := hb
  have HF : Hid (fwd fr to r = if 0 ≤ seek r fr fr.length then to.getD (seek r fr fr.length).toNat 0 else r) := rfl
  have hin := seek_in r fr fr.length
  generalize fwd fr to r = res at HF ⊢
  generalize seek r fr fr.length = p at HI HF hin
  clear ha hb
  by_cases h0 : 0 ≤ p
  · obtain ⟨q, rfl⟩ := Int.eq_ofNat_of_zero_le h0
    have hq : q < to.length := by omega
    obtain ⟨b2, off, rfl, c0⟩ := HB.out q hq
    rw [getD_at to q hq] at c0
    have HR : Hid (res = to.getD q 0) := by show res = _; rw [HF.out, if_pos h0]; rfl
    generalize to.getD q 0 = y at c0 HR
    have hqi : (q : Int) < (to.length : Int) := by omega
    clear hin HF hl
    go_enter Try.func83, Try.ntmps83
    go_wp2_with fail
    refine (HI.out w rfl).mono ?_
    rintro e w2 ⟨rfl, rfl⟩
    go_wp2
    go_ret
    have hres := HR.out
    subst hres
    exact ⟨rfl, rfl⟩
  · have HR : Hid (res = r) := by show res = _; rw [HF.out, if_neg h0]
    have h0' : ¬ 0 ≤ p := h0
    clear hin HF hl
    go_enter Try.func83, Try.ntmps83
    go_wp2_with fail
    refine (HI.out w rfl).mono ?_
    rintro e w2 ⟨rfl, rfl⟩
    go_wp2
    go_ret
    have hres := HR.out
    subst hres
    exact ⟨rfl, rfl⟩
theorem spec_fwd (w : World) (a b : Option Addr) (ca cb : Nat) (fr to : List Int) (r : Int) (hn : fr.length ≤ 1048576) (hl : fr.length = to.length) (ha : Nums w a fr) (hb : Nums w b to) :
    Calls Try.prog 77 #[.int .i64 r, .slice a fr.length ca, .slice b to.length cb] w fun e w' => e = .returned (.int .i64 (fwd fr to r)) ∧ w = w' := by
  have HN : Hid (Nums w a fr) := ha
  have HB : Hid (Nums w b to) := hb
  have HF : Hid (fwd fr to r = if 0 ≤ seek r fr fr.length then to.getD (seek r fr fr.length).toNat 0 else r) := rfl
  generalize fwd fr to r = res at HF ⊢
  have HTL : Hid (fr.length = to.length) := hl
  clear ha hb hl
  go_enter Try.func77, Try.ntmps77
  go_wp2
  go_loopw [7] (fun i wr => ∃ k : Nat, k ≤ fr.length ∧ i = .int .i64 (k : Int) ∧ seek r fr k = -1 ∧ w = wr) (fun i _ => fr.length - (intOf i).toNat)
  case atStart => exact ⟨0, Nat.zero_le _, rfl, rfl, rfl⟩
  case round =>
    obtain ⟨k, hk, rfl, hok, rfl⟩ := hrel
    have HOK : Hid (seek r fr k = -1) := hok
    clear hok
    by_cases hlt : k < fr.length
    · have hlti : (k : Int) < (fr.length : Int) := by omega
      have hk0 : (0 : Int) ≤ (k : Int) := by omega
      have hltt : (k : Int) < (to.length : Int) := by have := HTL.out; omega
      obtain ⟨b2, off, rfl, c0⟩ := HN.out k hlt
      obtain ⟨b3, off3, rfl, c1⟩ := HB.out k (by have := HTL.out; omega)
      rw [getD_at fr k hlt] at c0
      rw [getD_at to k (by have := HTL.out; omega)] at c1
      have HS : Hid (seek r fr (k + 1) = if fr.getD k 0 = r then (k : Int) else -1) := by
        show seek r fr (k + 1) = _
        rw [seek, HOK.out, if_neg (by omega)]
      have HK : Hid (0 ≤ seek r fr (k + 1) → seek r fr fr.length = seek r fr (k + 1)) := seek_keep r fr (k + 1) fr.length (by omega)
      generalize fr.getD k 0 = x at c0 HS
      by_cases hx : x = r
      · have he : (x == r) = true := by simpa using hx
        have HR2 : Hid (res = to.getD k 0) := by
          show res = _
          have h1 := HS.out
          rw [if_pos hx] at h1
          have h2 := HK.out (by rw [h1]; omega)
          rw [HF.out, h2, h1, if_pos (by omega)]; rfl
        generalize to.getD k 0 = y at c1 HR2
        clear hx
        go_wp2
        go_ret
        have hres := HR2.out
        subst hres
        exact ⟨rfl, rfl⟩
      · have he : (x == r) = false := by simpa using hx
        have HOK2 : Hid (seek r fr (k + 1) = -1) := by
          show seek r fr (k + 1) = -1
          rw [HS.out, if_neg hx]
        clear hx
        go_wp2
        go_roundw
        case rel => exact ⟨k + 1, by omega, by go_num, HOK2.out, trivial⟩
        case measure => simp [intOf]; omega
    · obtain rfl : k = fr.length := by omega
      have HR2 : Hid (res = r) := by show res = r; rw [HF.out, HOK.out, if_neg (by omega)]
      go_wp2
      go_ret
      have hres := HR2.out
      subst hres
      exact ⟨rfl, rfl⟩
theorem fwdOk_any (w : World) (a b : Option Addr) (ca cb : Nat) (fr to : List Int) (hn : to.length ≤ 1048576) (hb : Nums w b to) (hv : ∀ x ∈ to, x < 9223372036854775808) :
    Calls Try.prog 80 #[.slice a fr.length ca, .slice b to.length cb] w fun e w' => e = .returned (.bool (fwdOkB fr to)) ∧ Below w.heap.size w w' := by
  have HA : Hid (∀ w', w' = w → Calls _ _ _ w' _) := fun w' q => allRefs_any w' b cb to hn (q ▸ hb) hv
  have HF : Hid (fwdOkB fr to = (((fr.length : Int) == (to.length : Int)) && (decide ((to.length : Int) ≤ 400) && allRef to))) := rfl
  generalize fwdOkB fr to = res at HF ⊢
  clear hb hv
  cases h1 : ((fr.length : Int) == (to.length : Int)) with
  | false =>
    have HR : Hid (res = false) := by show res = false; rw [HF.out, h1]; rfl
    go_enter Try.func80, Try.ntmps80
    go_wp2
    go_ret
    exact ⟨by rw [HR.out]; rfl, Below.refl _ _⟩
  | true =>
    cases h2 : decide ((to.length : Int) ≤ 400) with
    | false =>
      have HR : Hid (res = false) := by show res = false; rw [HF.out, h1, h2]; rfl
      go_enter Try.func80, Try.ntmps80
      go_wp2
      go_ret
      exact ⟨by rw [HR.out]; rfl, Below.refl _ _⟩
    | true =>
      have HR : Hid (res = allRef to) := by show res = _; rw [HF.out, h1, h2]; rfl
      go_enter Try.func80, Try.ntmps80
      go_wp2_with fail
      refine (HA.out w rfl).mono ?_
      rintro e w2 ⟨rfl, hb2⟩
      have HB2 : Hid (Below w.heap.size w w2) := hb2
      clear hb2
      go_wp2
      go_ret
      exact ⟨by rw [HR.out]; rfl, HB2.out⟩
set_option maxHeartbeats 1000000 in
set_option maxRecDepth 20000 in
theorem fwdRefs_any (w : World) (c a b : Option Addr) (cc ca cb : Nat) (L fr to : List Int) (hL : L.length ≤ 1048576) (hn : fr.length ≤ 1048576) (hl : fr.length = to.length) (hc : Nums w c L) (ha : Nums w a fr) (hb : Nums w b to) :
    Calls Try.prog 48 #[.slice c L.length cc, .slice a fr.length ca, .slice b to.length cb] w fun e w' => ∃ v, e = .returned v ∧ w'.ownsRow w.heap.size 2 1 v (L.map (fwd fr to)).length ((L.map (fwd fr to)).map (Value.int .i64)) ∧ Below w.heap.size w w' := by
  have HC : Hid (∀ w', Below w.heap.size w w' → Nums w' c L) := fun w' h => hc.below h
  have HFW : Hid (∀ (r : Int) w', Below w.heap.size w w' → Calls _ _ _ w' _) := fun r w' h => impl_fwd w' a b ca cb fr to r hn hl (ha.below h) (hb.below h)
  clear ha hb hc hl
  go_enter Try.func48, Try.ntmps48
  go_wp2
  go_loopw [7, 12] (fun v i wr => ∃ k : Nat, k ≤ L.length ∧ i = .int .i64 (k : Int) ∧ wr.ownsRow w.heap.size 2 1 v ((L.take k).map (fwd fr to)).length (((L.take k).map (fwd fr to)).map (Value.int .i64)) ∧ Below w.heap.size w wr) (fun _ i _ => L.length - (intOf i).toNat)
  case atStart => exact ⟨0, Nat.zero_le _, rfl, ⟨rfl, .inl ⟨rfl, rfl⟩⟩, Below.refl _ _⟩
  case round =>
    obtain ⟨k, hk, rfl, hown, hbr⟩ := hrel
    have HO : Hid (wr.ownsRow w.heap.size 2 1 u7 ((L.take k).map (fwd fr to)).length (((L.take k).map (fwd fr to)).map (Value.int .i64))) := hown
    have HB : Hid (Below w.heap.size w wr) := hbr
    clear hown hbr
    by_cases hlt : k < L.length
    · have hlti : (k : Int) < (L.length : Int) := by omega
      obtain ⟨b3, o3, rfl, c1⟩ := HC.out wr HB.out k hlt
      have HS : Hid ((L.take (k + 1)).map (fwd fr to) = (L.take k).map (fwd fr to) ++ [fwd fr to L[k]]) := by
        show (L.take (k + 1)).map (fwd fr to) = _
        rw [List.take_succ_eq_append_getElem hlt, List.map_append]; rfl
      have HW : Hid (∀ w', Below w.heap.size w w' → Calls _ _ _ w' _) := HFW.out L[k]
      have HLK : Hid (((L.take k).map (fwd fr to)).length ≤ 1048576) := by show ((L.take k).map (fwd fr to)).length ≤ _; simp; omega
      generalize L[k] = x at c1 HS HW
      generalize fwd fr to x = y at HS HW
      generalize (L.take k).map (fwd fr to) = M at HO HS HLK
      go_wp2_with fail
      refine (HW.out wr HB.out).mono ?_
      rintro e w2 ⟨rfl, rfl⟩
      go_wp2_with (refine wpList_push wr (by rfl) _ _ (by rfl) w.heap.size u7 M y HO.out (by rfl) (by rfl) HLK.out HB.out.size ?_; intro g2 c2 w6 hown6 hb6 hB6; have HO6 : Hid (_) := hown6; have HB6 : Hid (Below w.heap.size w w6) := HB.out.trans hb6; clear hown6 hb6 hB6)
      go_roundw
      case rel => exact ⟨k + 1, by omega, by go_num, by rw [HS.out]; exact HO6.out, HB6.out⟩
      case measure => simp [intOf]; omega
    · obtain rfl : k = L.length := by omega
      rw [List.take_length] at HO
      go_wp2
      go_ret
      exact ⟨u7, rfl, HO.out, HB.out⟩
end Go.Proofs.Ytngpmohmnpbcnaa.obj
