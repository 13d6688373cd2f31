/-
  Objects: whether one is right, by the program and by the specification; nothing that was there is written.
-/
import Derived.Test.YtngpmohmnpbcnaaStrs
import Derived.Test.YtngpmohmnpbcnaaInts
import Derived.Test.YtngpmohmnpbcnaaBb
import Derived.Test.YtngpmohmnpbcnaaRef3
import Derived.BigQuiet
import Derived.Deep.QuietTactic
import Derived.Deep.RegionHeld3
namespace Go.Proofs.Ytngpmohmnpbcnaa.obj
open Go.RowKit
open kinds ints ref

def kd (xs : List ByteArray) (t : Int) : ByteArray := xs.getD t.toNat ⟨#[]⟩
def placeB (n : Nat) (t : Int) : Bool := decide (0 ≤ t) && decide (t < (n : Int))
def fitsB (xs : List ByteArray) (t : Int) (vs : List Int) : Bool := placeB xs.length t && ((vs.length : Int) == ((kd xs t).size : Int))
def isR (s : ByteArray) (i : Nat) : Bool := s.data.toList.getD i 0 == 114
def refsL (s : ByteArray) (vs : List Int) : Nat → List Int
  | 0 => []
  | k + 1 => if isR s k = true then refsL s vs k ++ [vs.getD k 0] else refsL s vs k
def allRef (l : List Int) : Bool := l.all fun r => decide (0 ≤ refKind r)
def objOkB (xs : List ByteArray) (t : Int) (vs : List Int) : Bool := typesOk xs && fitsB xs t vs && allRef (refsL (kd xs t) vs vs.length)
theorem refKind_cases (r : Int) : refKind r = -1 ∨ refKind r = 0 ∨ refKind r = 1 ∨ refKind r = 2 := by
  unfold refKind
  split
  · simp
  · split
    · simp
    · split <;> simp
theorem placeB_nat {n : Nat} {t : Int} (h : placeB n t = true) : ∃ p : Nat, t = (p : Int) ∧ p < n := by
  unfold placeB at h
  simp at h
  exact ⟨t.toNat, by omega, by omega⟩
theorem kd_at {xs : List ByteArray} (p : Nat) (h : p < xs.length) : kd xs (p : Int) = xs[p] := by
  unfold kd
  rw [Int.toNat_natCast, List.getD_eq_getElem?_getD, List.getElem?_eq_getElem h]; rfl
theorem isR_at (s : ByteArray) (i : Nat) (h : i < s.size) : ((s[i].toNat : Int) == 114) = isR s i := by
  unfold isR
  have e : s.data.toList.getD i 0 = s[i] := by
    rw [List.getD_eq_getElem?_getD, List.getElem?_eq_getElem (by simpa using h)]; rfl
  rw [e]
  cases hb : (s[i] == 114) with
  | true =>
    have : s[i] = 114 := by simpa using hb
    rw [this]; rfl
  | false =>
    have h1 : s[i] ≠ 114 := by simpa using hb
    have h2 : s[i].toNat ≠ 114 := fun q => h1 (UInt8.toNat_inj.1 q)
    simp
    omega
theorem refsL_len (s : ByteArray) (vs : List Int) (k : Nat) : (refsL s vs k).length ≤ k := by
  induction k with
  | zero => simp [refsL]
  | succ k ih =>
    rw [refsL]
    split
    · rw [List.length_append]; simp; omega
    · omega
theorem allRef_snoc (l : List Int) (r : Int) : allRef (l ++ [r]) = (allRef l && decide (0 ≤ refKind r)) := by simp [allRef]
theorem allRef_le (s : ByteArray) (vs : List Int) (k n : Nat) (h : k ≤ n) (hf : allRef (refsL s vs k) = false) : allRef (refsL s vs n) = false := by
  induction n with
  | zero => rw [show k = 0 by omega] at hf; exact hf
  | succ n ih =>
    by_cases e : k = n + 1
    · rw [← e]; exact hf
    · rw [refsL]
      split
      · rw [allRef_snoc, ih (by omega)]; rfl
      · exact ih (by omega)
theorem refsL_mem (s : ByteArray) (vs : List Int) (k : Nat) (hk : k ≤ vs.length) (P : Int → Prop) (h : ∀ x ∈ vs, P x) : ∀ x ∈ refsL s vs k, P x := by
  induction k with
  | zero => intro x hx; cases hx
  | succ k ih =>
    rw [refsL]
    split
    · intro x hx
      rcases List.mem_append.1 hx with q | q
      · exact ih (by omega) x q
      · rw [List.mem_singleton] at q
        rw [q, List.getD_eq_getElem?_getD, List.getElem?_eq_getElem (by omega)]
        exact h _ (List.getElem_mem _)
    · exact ih (by omega)
theorem isPlace_any (w : World) (t : Int) (n : Nat) :
    Calls Try.prog 97 #[.int .i64 t, .int .i64 (n : Int)] w fun e w' => e = .returned (.bool (placeB n t)) ∧ w' = w := by
  unfold placeB
  by_cases h : 0 ≤ t
  · have hd : decide (0 ≤ t) = true := by simpa using h
    rw [hd]
    go_enter Try.func97, Try.ntmps97
    go_wp2
    go_ret
    exact ⟨by simp, rfl⟩
  · have hd : decide (0 ≤ t) = false := by simpa using h
    rw [hd]
    go_enter Try.func97, Try.ntmps97
    go_wp2
    go_ret
    exact ⟨rfl, rfl⟩
set_option maxHeartbeats 1000000 in
theorem fits_any (w : World) (a : Option Addr) (cap : Nat) (xs : List ByteArray) (t : Int) (b : Option Addr) (vcap : Nat) (vs : List Int) (_hn : xs.length ≤ 1048576) (hl : Strs w a xs) :
    Calls Try.prog 101 #[.slice a xs.length cap, .agg #[.int .i64 t, .slice b vs.length vcap]] w fun e w' => e = .returned (.bool (fitsB xs t vs)) ∧ Below w.heap.size w w' := by
  obtain ⟨W, hW⟩ : ∃ W, W = w.alloc (.cells #[.int .i64 t, .slice b vs.length vcap] 52) := ⟨_, rfl⟩
  have HW : Hid (W = w.alloc (.cells #[.int .i64 t, .slice b vs.length vcap] 52)) := hW
  have hb0 : Below w.heap.size w W := by rw [hW]; exact (Below.refl _ _).alloc (Nat.le_refl _) _
  have k0 : W.cell? ⟨w.heap.size, 0, none⟩ = some (.int .i64 t) := by rw [hW, World.cell?_alloc_new]; rfl
  have k1 : W.cell? ⟨w.heap.size, 1, none⟩ = some (.slice b vs.length vcap) := by rw [hW, World.cell?_alloc_new]; rfl
  have HB : Hid (∀ n, Below w.heap.size w (W.drewN n)) := fun n => ⟨hb0.os, hb0.tape, hb0.output, hb0.size, hb0.block⟩
  have HP : Hid (∀ w, Calls _ _ _ w _) := fun w => isPlace_any w t xs.length
  have HL : Hid (Strs W a xs) := hl.below hb0
  clear hW hl hb0
  cases hp : placeB xs.length t with
  | false =>
    have HF : Hid (fitsB xs t vs = false) := by show fitsB xs t vs = false; unfold fitsB; rw [hp]; rfl
    rw [hp] at HP
    clear hp
    go_enter Try.func101, Try.ntmps101
    go_wp2_with fail
    rw [← HW.out]
    go_quiet (first | (go_at_call 97; refine Calls.quiet_of_same (HP.out _)))
    go_wp2
    go_ret
    exact ⟨by rw [HF.out]; rfl, HB.out _⟩
  | true =>
    obtain ⟨p, rfl, hpl⟩ := placeB_nat hp
    rw [hp] at HP
    obtain ⟨bb, off, rfl, c0⟩ := HL.out p hpl
    have HF : Hid (fitsB xs (p : Int) vs = ((vs.length : Int) == (xs[p].size : Int))) := by show fitsB xs (p : Int) vs = _; unfold fitsB; rw [hp, kd_at p hpl]; rfl
    generalize xs[p] = s at c0 HF
    have hpi : (p : Int) < (xs.length : Int) := by omega
    have hp0 : (0 : Int) ≤ (p : Int) := by omega
    clear hp
    go_enter Try.func101, Try.ntmps101
    go_wp2_with fail
    rw [← HW.out]
    go_quiet (first | (go_at_call 97; refine Calls.quiet_of_same (HP.out _)))
    go_wp2
    go_ret
    exact ⟨by rw [HF.out]; rfl, HB.out _⟩
set_option maxHeartbeats 1000000 in
theorem allRefs_any (w : World) (a : Option Addr) (cap : Nat) (xs : List Int) (hn : xs.length ≤ 1048576) (hl : Nums w a xs) (hv : ∀ x ∈ xs, x < 9223372036854775808) :
    Calls Try.prog 102 #[.slice a xs.length cap] w fun e w' => e = .returned (.bool (allRef xs)) ∧ Below w.heap.size w w' := by
  have HN : Hid (∀ w', Below w.heap.size w w' → Nums w' a xs) := fun w' h => hl.below h
  have HV : Hid (∀ x ∈ xs, x < 9223372036854775808) := hv
  obtain ⟨res, hres⟩ : ∃ r, r = allRef xs := ⟨_, rfl⟩
  rw [← hres]
  have HRES : Hid (res = allRef xs) := hres
  clear hl hv hres
  go_enter Try.func102, Try.ntmps102
  go_wp2
  go_loopw [7] (fun i wr => ∃ k : Nat, k ≤ xs.length ∧ i = .int .i64 (k : Int) ∧ allRef (xs.take k) = true ∧ Below w.heap.size w wr) (fun i _ => xs.length - (intOf i).toNat)
  case atStart => exact ⟨0, Nat.zero_le _, rfl, rfl, Below.refl _ _⟩
  case round =>
    obtain ⟨k, hk, rfl, hok, hb⟩ := hrel
    have HB : Hid (Below w.heap.size w wr) := hb
    have HOK : Hid (allRef (xs.take k) = true) := hok
    clear hb hok
    by_cases hlt : k < xs.length
    · have hlti : (k : Int) < (xs.length : Int) := by omega
      obtain ⟨b, off, rfl, c0⟩ := HN.out wr HB.out k hlt
      have HT : Hid (allRef (xs.take (k + 1)) = (allRef (xs.take k) && decide (0 ≤ refKind xs[k]))) := by
        show allRef (xs.take (k + 1)) = _
        rw [List.take_succ_eq_append_getElem hlt, allRef_snoc]
      have HNO : Hid (allRef (xs.take (k + 1)) = false → allRef xs = false) := fun h => by
        unfold allRef at h ⊢
        rw [List.all_eq_false] at h ⊢
        obtain ⟨x, hx, q⟩ := h
        exact ⟨x, List.mem_of_mem_take hx, q⟩
      have HRK : Hid (∀ w, Calls _ _ _ w _) := fun w => implRefKind xs[k] w (HV.out _ (List.getElem_mem _))
      have hrc := refKind_cases xs[k]
      generalize xs[k] = x at c0 HT HRK hrc
      generalize refKind x = rk at HT HRK hrc
      by_cases hneg : rk = -1
      · subst hneg
        have HR2 : Hid (res = false) := by
          show res = false
          rw [HRES.out]; exact HNO.out (by rw [HT.out]; simp)
        clear hrc
        go_wp2_with fail
        refine (HRK.out _).mono ?_
        rintro e w2 ⟨rfl, hb2⟩
        have HB2 : Hid (Below w.heap.size w w2) := HB.out.trans (hb2.mono HB.out.size)
        clear hb2
        go_wp2
        go_ret
        exact ⟨by rw [HR2.out]; rfl, HB2.out⟩
      · have he : (rk == -1) = false := by simpa using hneg
        have HOK2 : Hid (allRef (xs.take (k + 1)) = true) := by
          show allRef (xs.take (k + 1)) = true
          rw [HT.out, HOK.out]
          simp
          omega
        clear hrc hneg
        go_wp2_with fail
        refine (HRK.out _).mono ?_
        rintro e w2 ⟨rfl, hb2⟩
        have HB2 : Hid (Below w.heap.size w w2) := HB.out.trans (hb2.mono HB.out.size)
        clear hb2
        go_wp2
        go_roundw
        case rel => exact ⟨k + 1, by omega, by go_num, HOK2.out, HB2.out⟩
        case measure => simp [intOf]; omega
    · obtain rfl : k = xs.length := by omega
      have HR2 : Hid (res = true) := by
        show res = true
        have := HOK.out
        rw [List.take_length] at this
        rw [HRES.out, this]
      go_wp2
      go_ret
      exact ⟨by rw [HR2.out]; rfl, HB.out⟩
set_option maxHeartbeats 2000000 in
set_option maxRecDepth 20000 in
theorem refsOf_any (w : World) (a : Option Addr) (cap : Nat) (xs : List ByteArray) (p : Nat) (b : Option Addr) (vcap : Nat) (vs : List Int) (_hn : xs.length ≤ 1048576) (hl : Strs w a xs) (hp : p < xs.length) (hs : vs.length = xs[p].size) (h23 : vs.length ≤ 23) (hvs : Nums w b vs) :
    Calls Try.prog 71 #[.slice a xs.length cap, .agg #[.int .i64 (p : Int), .slice b vs.length vcap]] w fun e w' => ∃ v, e = .returned v ∧ w'.ownsRow w.heap.size 2 1 v (refsL xs[p] vs vs.length).length ((refsL xs[p] vs vs.length).map (Value.int .i64)) ∧ Below w.heap.size w w' := by
  obtain ⟨n, hvn⟩ : ∃ n, n = vs.length := ⟨_, rfl⟩
  rw [← hvn] at hs h23 ⊢
  obtain ⟨W, hW⟩ : ∃ W, W = w.alloc (.cells #[.int .i64 (p : Int), .slice b n vcap] 52) := ⟨_, rfl⟩
  have hb0 : Below w.heap.size w W := by rw [hW]; exact (Below.refl _ _).alloc (Nat.le_refl _) _
  have hsz : w.heap.size < W.heap.size := by rw [hW]; simp
  have k1 : W.cell? ⟨w.heap.size, 1, none⟩ = some (.slice b n vcap) := by rw [hW, World.cell?_alloc_new]; rfl
  obtain ⟨b2, off, rfl, c0⟩ := hl p hp
  have hb2 : b2 < w.heap.size := World.block_lt_of_cell? w _ c0
  have hcv := bb.run_told xs[p] W
  have htb := bb.told_below W xs[p]
  have hts := bb.told_size W xs[p]
  have hty := bb.told_bytes W xs[p]
  generalize xs[p] = s at hs c0 hcv htb hts hty ⊢
  generalize bb.capOf W s = cp at hcv
  generalize bb.told W s = T at hcv htb hts hty
  have HTY : Hid (∀ w', Below T.heap.size T w' → bb.Bytes w' W.heap.size s.data.toList) := fun w' h => hty.below h (by rw [hts]; omega)
  have HVS : Hid (∀ w', Below T.heap.size T w' → Nums w' b vs) := fun w' h => ((hvs.below hb0).below htb).below h
  have HK1 : Hid (∀ w', Below T.heap.size T w' → w'.cell? ⟨w.heap.size, 1, none⟩ = some (.slice b n vcap)) := fun w' h => by
    rw [h.cell (p := ⟨w.heap.size, 1, none⟩) (Nat.lt_of_lt_of_le hsz htb.size), htb.cell (p := ⟨w.heap.size, 1, none⟩) hsz]; exact k1
  have HB0 : Hid (Below w.heap.size w T) := hb0.trans (htb.mono hb0.size)
  have hpi : (p : Int) < (xs.length : Int) := by omega
  have hp0 : (0 : Int) ≤ (p : Int) := by omega
  have HSS : Hid (n = s.size) := hs
  have HVN : Hid (n = vs.length) := hvn
  rw [← hs] at hcv
  obtain ⟨g, hg⟩ : ∃ g, g = W.heap.size := ⟨_, rfl⟩
  rw [← hg] at hcv HTY
  rw [hW] at hcv
  clear hW hl hvs htb hts hty hb0 k1 hg hs hvn
  go_enter Try.func71, Try.ntmps71
  go_wp2
  clear hcv c0 hb2 hpi hp0
  go_loopw [5, 15] (fun v i wr => ∃ k : Nat, k ≤ n ∧ i = .int .i64 (k : Int) ∧ wr.ownsRow T.heap.size 2 1 v (refsL s vs k).length ((refsL s vs k).map (Value.int .i64)) ∧ Below T.heap.size T wr) (fun _ i _ => n - (intOf i).toNat)
  case atStart => exact ⟨0, Nat.zero_le _, rfl, ⟨rfl, .inl ⟨rfl, rfl⟩⟩, Below.refl _ _⟩
  case round =>
    obtain ⟨k, hk, rfl, hown, hb⟩ := hrel
    have HOW : Hid (wr.ownsRow T.heap.size 2 1 u5 (refsL s vs k).length ((refsL s vs k).map (Value.int .i64))) := hown
    have HB : Hid (Below T.heap.size T wr) := hb
    clear hown hb
    by_cases hlt : k < n
    · have hlti : (k : Int) < (n : Int) := by omega
      have hk0 : (0 : Int) ≤ (k : Int) := by omega
      have hks : k < s.size := by have := HSS.out; omega
      have d0 := (HTY.out wr HB.out k (by simpa using hks)).1
      have hIR := isR_at s k hks
      have hsk : s.data.toList[k]'(by simpa using hks) = s[k] := rfl
      rw [hsk] at d0
      obtain ⟨b3, o3, rfl, c1⟩ := HVS.out wr HB.out k (by have := HVN.out; omega)
      rw [show vs[k]'(by have := HVN.out; omega) = vs.getD k 0 by rw [List.getD_eq_getElem?_getD, List.getElem?_eq_getElem (by have := HVN.out; omega)]; rfl] at c1
      have q1 := HK1.out wr HB.out
      have HRS : Hid (refsL s vs (k + 1) = if isR s k = true then refsL s vs k ++ [vs.getD k 0] else refsL s vs k) := rfl
      have HLK : Hid ((refsL s vs k).length ≤ 1048576) := by show (refsL s vs k).length ≤ _; have := refsL_len s vs k; omega
      generalize vs.getD k 0 = y at c1 HRS
      generalize refsL s vs k = L at HOW HRS HLK
      generalize s[k].toNat = x at d0 hIR
      clear hsk hks
      cases hr : isR s k with
      | true =>
        rw [hr] at hIR
        have HRS2 : Hid (refsL s vs (k + 1) = L ++ [y]) := by
          have := HRS.out
          rw [hr] at this
          exact this
        clear hr HRS
        go_wp2_with (refine wpList_push wr (by rfl) _ _ (by rfl) T.heap.size u5 L y HOW.out (by rfl) (by rfl) HLK.out HB.out.size ?_; intro g2 c2 w6 hown6 hb6 hB6; have HO6 : Hid (_) := hown6; have HB6 : Hid (Below T.heap.size T w6) := HB.out.trans hb6; clear hown6 hb6 hB6)
        go_roundw
        case rel => exact ⟨k + 1, by omega, by go_num, by rw [HRS2.out]; exact HO6.out, HB6.out⟩
        case measure => simp [intOf]; omega
      | false =>
        rw [hr] at hIR
        have HRS2 : Hid (refsL s vs (k + 1) = L) := by
          have := HRS.out
          rw [hr] at this
          exact this
        clear hr HRS
        go_wp2
        go_roundw
        case rel => exact ⟨k + 1, by omega, by go_num, by rw [HRS2.out]; exact HOW.out, HB.out⟩
        case measure => simp [intOf]; omega
    · obtain rfl : k = n := by omega
      go_wp2
      go_ret
      refine ⟨u5, rfl, ?_, HB0.out.trans (HB.out.mono HB0.out.size)⟩
      refine ⟨HOW.out.1, ?_⟩
      rcases HOW.out.2 with q | ⟨g2, c2, cur, e, hg0, r⟩
      · exact .inl q
      · exact .inr ⟨g2, c2, cur, e, Nat.le_trans HB0.out.size hg0, r⟩
set_option maxHeartbeats 2000000 in
theorem impl_objok (w : World) (a : Option Addr) (cap : Nat) (xs : List ByteArray) (t : Int) (b : Option Addr) (vcap : Nat) (vs : List Int) (hn : xs.length ≤ 1048576) (hz : ∀ i (hi : i < xs.length), xs[i].size ≤ 1048576) (hl : Strs w a xs) (hvs : Nums w b vs) (hv : ∀ x ∈ vs, x < 9223372036854775808) :
    Calls Try.prog 79 #[.slice a xs.length cap, .agg #[.int .i64 t, .slice b vs.length vcap]] w fun e w' => e = .returned (.bool (objOkB xs t vs)) ∧ Below w.heap.size w w' := by
  obtain ⟨W, hW⟩ : ∃ W, W = w.alloc (.cells #[.int .i64 t, .slice b vs.length vcap] 52) := ⟨_, rfl⟩
  have HW : Hid (W = w.alloc (.cells #[.int .i64 t, .slice b vs.length vcap] 52)) := hW
  have hb0 : Below w.heap.size w W := by rw [hW]; exact (Below.refl _ _).alloc (Nat.le_refl _) _
  have HB0 : Hid (Below w.heap.size w W) := hb0
  have hsz : w.heap.size < W.heap.size := by rw [hW]; simp
  have k0 : W.cell? ⟨w.heap.size, 0, none⟩ = some (.int .i64 t) := by rw [hW, World.cell?_alloc_new]; rfl
  have k1 : W.cell? ⟨w.heap.size, 1, none⟩ = some (.slice b vs.length vcap) := by rw [hW, World.cell?_alloc_new]; rfl
  have HCS : Hid (∀ w', Below W.heap.size W w' → w'.cell? ⟨w.heap.size, 0, none⟩ = some (.int .i64 t) ∧ w'.cell? ⟨w.heap.size, 1, none⟩ = some (.slice b vs.length vcap)) := fun w' h =>
    ⟨by rw [h.cell (p := ⟨w.heap.size, 0, none⟩) hsz]; exact k0, by rw [h.cell (p := ⟨w.heap.size, 1, none⟩) hsz]; exact k1⟩
  have HTY : Hid (∀ w', w' = W → Calls _ _ _ w' _) := fun w' q => impl_types w' a cap xs hn (q ▸ hl.below hb0) hz
  have HFT : Hid (∀ w', w' = W → Calls _ _ _ w' _) := fun w' q => fits_any w' a cap xs t b vcap vs hn (q ▸ hl.below hb0)
  have HS : Hid (∀ w', Below W.heap.size W w' → Strs w' a xs ∧ Nums w' b vs) := fun w' h => ⟨(hl.below hb0).below h, (hvs.below hb0).below h⟩
  have HV : Hid (∀ x ∈ vs, x < 9223372036854775808) := hv
  have HDE : Hid (objOkB xs t vs = (typesOk xs && fitsB xs t vs && allRef (refsL (kd xs t) vs vs.length))) := rfl
  generalize objOkB xs t vs = res at HDE ⊢
  clear hW hl hvs hv hb0 k0 k1
  cases ht : typesOk xs with
  | false =>
    rw [ht] at HTY HDE
    have HR : Hid (res = false) := by show res = false; rw [HDE.out]; rfl
    clear ht HDE hz
    go_enter Try.func79, Try.ntmps79
    go_wp2_with fail
    rw [← HW.out]
    refine (HTY.out W rfl).mono ?_
    rintro e w2 ⟨rfl, rfl⟩
    go_wp2
    go_ret
    exact ⟨by rw [HR.out]; rfl, HB0.out⟩
  | true =>
    rw [ht] at HTY HDE
    cases hf : fitsB xs t vs with
    | false =>
      rw [hf] at HFT HDE
      have HR : Hid (res = false) := by show res = false; rw [HDE.out]; rfl
      obtain ⟨m0, m1⟩ := HCS.out W (Below.refl _ _)
      clear ht hf HDE hz
      go_enter Try.func79, Try.ntmps79
      go_wp2_with fail
      rw [← HW.out]
      refine (HTY.out W rfl).mono ?_
      rintro e w2 ⟨rfl, rfl⟩
      go_wp2_with fail
      refine (HFT.out _ rfl).mono ?_
      rintro e w2 ⟨rfl, hb2⟩
      have HB2 : Hid (Below w.heap.size w w2) := HB0.out.trans (hb2.mono HB0.out.size)
      clear hb2
      go_wp2
      go_ret
      exact ⟨by rw [HR.out]; rfl, HB2.out⟩
    | true =>
      rw [hf] at HFT HDE
      have hf2 := hf
      unfold fitsB at hf2
      rw [Bool.and_eq_true] at hf2
      obtain ⟨p, rfl, hpl⟩ := placeB_nat hf2.1
      have hlen : vs.length = xs[p].size := by have := hf2.2; rw [kd_at p hpl] at this; simp at this; omega
      have h23 : xs[p].size ≤ 23 := by
        have := ht
        unfold typesOk at this
        rw [Bool.and_eq_true, List.all_eq_true] at this
        exact (isType_size (this.2 _ (List.getElem_mem hpl))).2
      have HR : Hid (res = allRef (refsL xs[p] vs vs.length)) := by show res = _; rw [HDE.out, kd_at p hpl]; rfl
      have HRO : Hid (∀ w', Below W.heap.size W w' → Calls _ _ _ w' _) := fun w' h => refsOf_any w' a cap xs p b vcap vs hn (HS.out w' h).1 hpl hlen (by omega) (HS.out w' h).2
      have HLN : Hid ((refsL xs[p] vs vs.length).length ≤ 1048576) := by show (refsL xs[p] vs vs.length).length ≤ _; have := refsL_len xs[p] vs vs.length; omega
      have HRV : Hid (∀ x ∈ refsL xs[p] vs vs.length, x < 9223372036854775808) := refsL_mem _ _ _ (Nat.le_refl _) _ HV.out
      generalize refsL xs[p] vs vs.length = L at HR HRO HLN HRV
      obtain ⟨m0, m1⟩ := HCS.out W (Below.refl _ _)
      clear ht hf HDE hz hf2 hlen h23
      go_enter Try.func79, Try.ntmps79
      go_wp2_with fail
      rw [← HW.out]
      refine (HTY.out W rfl).mono ?_
      rintro e w2 ⟨rfl, rfl⟩
      go_wp2_with fail
      refine (HFT.out _ rfl).mono ?_
      rintro e w2 ⟨rfl, hb2⟩
      have HB2 : Hid (Below _ _ w2) := hb2
      clear m0 m1 hb2
      obtain ⟨m0, m1⟩ := HCS.out w2 HB2.out
      go_wp2_with fail
      refine (HRO.out w2 HB2.out).mono ?_
      rintro e w3 ⟨v, rfl, hown, hb3⟩
      obtain ⟨a3, g3, c3, rfl, hg3, hin⟩ := ints_of_row hown
      have HIN : Hid (Ints w3 a3 g3 L) := hin
      have HB3 : Hid (Below w.heap.size w w3) := (HB0.out.trans (HB2.out.mono HB0.out.size)).trans (hb3.mono (Nat.le_trans HB0.out.size HB2.out.size))
      clear m0 m1 hown hb3 hin hg3
      go_wp2_with fail
      refine (allRefs_any w3 a3 c3 L HLN.out HIN.out.nums HRV.out).mono ?_
      rintro e w4 ⟨rfl, hb4⟩
      have HB4 : Hid (Below w.heap.size w w4) := HB3.out.trans (hb4.mono HB3.out.size)
      clear hb4
      go_wp2
      go_ret
      exact ⟨by rw [HR.out]; rfl, HB4.out⟩
end Go.Proofs.Ytngpmohmnpbcnaa.obj
