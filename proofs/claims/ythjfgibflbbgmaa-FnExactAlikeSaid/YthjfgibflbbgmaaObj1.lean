/-
  Objects: whether one is right, by the program and by the specification; nothing that was there is written.
-/
import Derived.Test.YthjfgibflbbgmaaStrs
import Derived.Test.YthjfgibflbbgmaaInts
import Derived.Test.YthjfgibflbbgmaaBb
import Derived.Test.YthjfgibflbbgmaaRef3
import Derived.BigQuiet
import Derived.Deep.QuietTactic
import Derived.Deep.RegionHeld3
namespace Go.Proofs.Ythjfgibflbbgmaa.obj
open Go.RowKit
open kinds ints ref

def kd (xs : List ByteArray) (t : Int) : ByteArray := xs.getD t.toNat ⟨#[]⟩
def placeB (n : Nat) (t : Int) : Bool := decide (0 ≤ t) && decide (t < (n : Int))
def fitsB (xs : List ByteArray) (t : Int) (vs : List Int) : Bool := placeB xs.length t && ((vs.length : Int) == ((kd xs t).size : Int))
def isR (s : ByteArray) (i : Nat) : Bool := s.data.toList.getD i 0 == 114
def refsL (s : ByteArray) (vs : List Int) : Nat → List Int
  | 0 => []
  | k + 1 => if isR s k = true then refsL s vs k ++ [vs.getD k 0] else refsL s vs k
def allRef (l : List Int) : Bool := l.all fun r => decide (0 ≤ refKind r)
def objOkB (xs : List ByteArray) (t : Int) (vs : List Int) : Bool := typesOk xs && fitsB xs t vs && allRef (refsL (kd xs t) vs vs.length)
theorem refKind_cases (r : Int) : refKind r = -1 ∨ refKind r = 0 ∨ refKind r = 1 ∨ refKind r = 2 := by
  unfold refKind
  split
  · simp
  · split
    · simp
    · split <;> simp
theorem placeB_nat {n : Nat} {t : Int} (h : placeB n t = true) : ∃ p : Nat, t = (p : Int) ∧ p < n := by
  unfold placeB at h
  simp at h
  exact ⟨t.toNat, by omega, by omega⟩
theorem kd_at {xs : List ByteArray} (p : Nat) (h : p < xs.length) : kd xs (p : Int) = xs[p] := by
  unfold kd
  rw [Int.toNat_natCast, List.getD_eq_getElem?_getD, List.getElem?_eq_getElem h]; rfl
theorem isR_at (s : ByteArray) (i : Nat) (h : i < s.size) : ((s[i].toNat : Int) == 114) = isR s i := by
  unfold isR
  have e : s.data.toList.getD i 0 = s[i] := by
    rw [List.getD_eq_getElem?_getD, List.getElem?_eq_getElem (by simpa using h)]; rfl
  rw [e]
  cases hb : (s[i] == 114) with
  | true =>
    have : s[i] = 114 := by simpa using hb
    rw [this]; rfl
  | false =>
    have h1 : s[i] ≠ 114 := by simpa using hb
    have h2 : s[i].toNat ≠ 114 := fun q => h1 (UInt8.toNat_inj.1 q)
    simp
    omega
theorem refsL_len (s : ByteArray) (vs : List Int) (k : Nat) : (refsL s vs k).length ≤ k := by
  induction k with
  | zero => simp [refsL]
  | succ k ih =>
    rw [refsL]
    split
    · rw [List.length_append]; simp; omega
    · omega
theorem allRef_snoc (l : List Int) (r : Int) : allRef (l ++ [r]) = (allRef l && decide (0 ≤ refKind r)) := by simp [allRef]
theorem allRef_le (s : ByteArray) (vs : List Int) (k n : Nat) (h : k ≤ n) (hf : allRef (refsL s vs k) = false) : allRef (refsL s vs n) = false := by
  induction n with
  | zero => rw [show k = 0 by omega] at hf; exact hf
  | succ n ih =>
    by_cases e : k = n + 1
    · rw [← e]; exact hf
    · rw [refsL]
      split
      · rw [allRef_snoc, ih (by omega)]; rfl
      · exact ih (by omega)
theorem refsL_mem (s : ByteArray) (vs : List Int) (k : Nat) (hk : k ≤ vs.length) (P : Int → Prop) (h : ∀ x ∈ vs, P x) : ∀ x ∈ refsL s vs k, P x := by
  induction k with
  | zero => intro x hx; cases hx
  | succ k ih =>
    rw [refsL]
    split
    · intro x hx
      rcases List.mem_append.1 hx with q | q
      · exact ih (by omega) x q
      · rw [List.mem_singleton] at q
        rw [q, List.getD_eq_getElem?_getD, List.getElem?_eq_getElem (by omega)]
        exact h _ (List.getElem_mem _)
    · exact ih (by omega)
theorem isPlace_any (w : World) (t : Int) (n : Nat) :
    Calls Try.prog 86 #[.int .i64 t, .int .i64 (n : Int)] w fun e w' => e = .returned (.bool (placeB n t)) ∧ w' = w := by
  unfold placeB
  by_cases h : 0 ≤ t
  · have hd : decide (0 ≤ t) = true := by simpa using h
    rw [hd]
    go_enter Try.func86, Try.ntmps86
    go_wp2
    go_ret
    exact ⟨by simp, rfl⟩
  · have hd : decide (0 ≤ t) = false := by simpa using h
    rw [hd]
    go_enter Try.func86, Try.ntmps86
    go_wp2
    go_ret
    exact ⟨rfl, rfl⟩
set_option maxHeartbeats 1000000 in
theorem fits_any (w : World) (a : Option Addr) (cap : Nat) (xs : List ByteArray) (t : Int) (b : Option Addr) (vcap : Nat) (vs : List Int) (_hn : xs.length ≤ 1048576) (hl : Strs w a xs) :
    Calls Try.prog 60 #[.slice a xs.length cap, .agg #[.int .i64 t, .slice b vs.length vcap]] w fun e w' => e = .returned (.bool (fitsB xs t vs)) ∧ Below w.heap.size w w' := by
  obtain ⟨W, hW⟩ : ∃ W, W = w.alloc (.cells #[.int .i64 t, .slice b vs.length vcap] 53) := ⟨_, rfl⟩
  have HW : Hid (W = w.alloc (.cells #[.int .i64 t, .slice b vs.length vcap] 53)) := hW
  have hb0 : Below w.heap.size w W := by rw [hW]; exact (Below.refl _ _).alloc (Nat.le_refl _) _
  have k0 : W.cell? ⟨w.heap.size, 0, none⟩ = some (.int .i64 t) := by rw [hW, World.cell?_alloc_new]; rfl
  have k1 : W.cell? ⟨w.heap.size, 1, none⟩ = some (.slice b vs.length vcap) := by rw [hW, World.cell?_alloc_new]; rfl
  have HB : Hid (∀ n, Below w.heap.size w (W.drewN n)) := fun n => ⟨hb0.os, hb0.tape, hb0.output, hb0.size, hb0.block⟩
  have HP : Hid (∀ w, Calls _ _ _ w _) := fun w => isPlace_any w t xs.length
  have HL : Hid (Strs W a xs) := hl.below hb0
  clear hW hl hb0
  cases hp : placeB xs.length t with
  | false =>
    have HF : Hid (fitsB xs t vs = false) := by show fitsB xs t vs = false; unfold fitsB; rw [hp]; rfl
    rw [hp] at HP
    clear hp
    go_enter Try.func60, Try.ntmps60
    go_wp2_with fail
    rw [← HW.out]
    go_quiet (first | (go_at_call 86; refine Calls.quiet_of_same (HP.out _)))
    go_wp2
    go_ret
    exact ⟨by rw [HF.out]; rfl, HB.out _⟩
  | true =>
    obtain ⟨p, rfl, hpl⟩ := placeB_nat hp
    rw [hp] at HP
    obtain ⟨bb, off, rfl, c0⟩ := HL.out p hpl
    have HF : Hid (fitsB xs (p : Int) vs = ((vs.length : Int) == (xs[p].size : Int))) := by show fitsB xs (p : Int) vs = _; unfold fitsB; rw [hp, kd_at p hpl]; rfl
    generalize xs[p] = s at c0 HF
    have hpi : (p : Int) < (xs.length : Int) := by omega
    have hp0 : (0 : Int) ≤ (p : Int) := by omega
    clear hp
    go_enter Try.func60, Try.ntmps60
    go_wp2_with fail
    rw [← HW.out]
    go_quiet (first | (go_at_call 86; refine Calls.quiet_of_same (HP.out _)))
    go_wp2
    go_ret
    exact ⟨by rw [HF.out]; rfl, HB.out _⟩
set_option maxHeartbeats 2000000 in
set_option maxRecDepth 20000 in
theorem refsOf_any (w : World) (a : Option Addr) (cap : Nat) (xs : List ByteArray) (p : Nat) (b : Option Addr) (vcap : Nat) (vs : List Int) (_hn : xs.length ≤ 1048576) (hl : Strs w a xs) (hp : p < xs.length) (hs : vs.length = xs[p].size) (h23 : vs.length ≤ 23) (hvs : Nums w b vs) :
    Calls Try.prog 61 #[.slice a xs.length cap, .agg #[.int .i64 (p : Int), .slice b vs.length vcap]] w fun e w' => ∃ v, e = .returned v ∧ w'.ownsRow w.heap.size 2 1 v (refsL xs[p] vs vs.length).length ((refsL xs[p] vs vs.length).map (Value.int .i64)) ∧ Below w.heap.size w w' := by
  obtain ⟨n, hvn⟩ : ∃ n, n = vs.length := ⟨_, rfl⟩
  rw [← hvn] at hs h23 ⊢
  obtain ⟨W, hW⟩ : ∃ W, W = w.alloc (.cells #[.int .i64 (p : Int), .slice b n vcap] 53) := ⟨_, rfl⟩
  have hb0 : Below w.heap.size w W := by rw [hW]; exact (Below.refl _ _).alloc (Nat.le_refl _) _
  have hsz : w.heap.size < W.heap.size := by rw [hW]; simp
  have k1 : W.cell? ⟨w.heap.size, 1, none⟩ = some (.slice b n vcap) := by rw [hW, World.cell?_alloc_new]; rfl
  obtain ⟨b2, off, rfl, c0⟩ := hl p hp
  have hb2 : b2 < w.heap.size := World.block_lt_of_cell? w _ c0
  have hcv := bb.run_told xs[p] W
  have htb := bb.told_below W xs[p]
  have hts := bb.told_size W xs[p]
  have hty := bb.told_bytes W xs[p]
  generalize xs[p] = s at hs c0 hcv htb hts hty ⊢
  generalize bb.capOf W s = cp at hcv
  generalize bb.told W s = T at hcv htb hts hty
  have HTY : Hid (∀ w', Below T.heap.size T w' → bb.Bytes w' W.heap.size s.data.toList) := fun w' h => hty.below h (by rw [hts]; omega)
  have HVS : Hid (∀ w', Below T.heap.size T w' → Nums w' b vs) := fun w' h => ((hvs.below hb0).below htb).below h
  have HK1 : Hid (∀ w', Below T.heap.size T w' → w'.cell? ⟨w.heap.size, 1, none⟩ = some (.slice b n vcap)) := fun w' h => by
    rw [h.cell (p := ⟨w.heap.size, 1, none⟩) (Nat.lt_of_lt_of_le hsz htb.size), htb.cell (p := ⟨w.heap.size, 1, none⟩) hsz]; exact k1
  have HB0 : Hid (Below w.heap.size w T) := hb0.trans (htb.mono hb0.size)
  have hpi : (p : Int) < (xs.length : Int) := by omega
  have hp0 : (0 : Int) ≤ (p : Int) := by omega
  have HSS : Hid (n = s.size) := hs
  have HVN : Hid (n = vs.length) := hvn
  rw [← hs] at hcv
  obtain ⟨g, hg⟩ : ∃ g, g = W.heap.size := ⟨_, rfl⟩
  rw [← hg] at hcv HTY
  rw [hW] at hcv
  clear hW hl hvs htb hts hty hb0 k1 hg hs hvn
  go_enter Try.func61, Try.ntmps61
  go_wp2
  clear hcv c0 hb2 hpi hp0
  go_loopw [5, 15] (fun v i wr => ∃ k : Nat, k ≤ n ∧ i = .int .i64 (k : Int) ∧ wr.ownsRow T.heap.size 2 1 v (refsL s vs k).length ((refsL s vs k).map (Value.int .i64)) ∧ Below T.heap.size T wr) (fun _ i _ => n - (intOf i).toNat)
  case atStart => exact ⟨0, Nat.zero_le _, rfl, ⟨rfl, .inl ⟨rfl, rfl⟩⟩, Below.refl _ _⟩
  case round =>
    obtain ⟨k, hk, rfl, hown, hb⟩ := hrel
    have HOW : Hid (wr.ownsRow T.heap.size 2 1 u5 (refsL s vs k).length ((refsL s vs k).map (Value.int .i64))) := hown
    have HB : Hid (Below T.heap.size T wr) := hb
    clear hown hb
    by_cases hlt : k < n
    · have hlti : (k : Int) < (n : Int) := by omega
      have hk0 : (0 : Int) ≤ (k : Int) := by omega
      have hks : k < s.size := by have := HSS.out; omega
      have d0 := (HTY.out wr HB.out k (by simpa using hks)).1
      have hIR := isR_at s k hks
      have hsk : s.data.toList[k]'(by simpa using hks) = s[k] := rfl
      rw [hsk] at d0
      obtain ⟨b3, o3, rfl, c1⟩ := HVS.out wr HB.out k (by have := HVN.out; omega)
      rw [show vs[k]'(by have := HVN.out; omega) = vs.getD k 0 by rw [List.getD_eq_getElem?_getD, List.getElem?_eq_getElem (by have := HVN.out; omega)]; rfl] at c1
      have q1 := HK1.out wr HB.out
      have HRS : Hid (refsL s vs (k + 1) = if isR s k = true then refsL s vs k ++ [vs.getD k 0] else refsL s vs k) := rfl
      have HLK : Hid ((refsL s vs k).length ≤ 1048576) := by show (refsL s vs k).length ≤ _; have := refsL_len s vs k; omega
      generalize vs.getD k 0 = y at c1 HRS
      generalize refsL s vs k = L at HOW HRS HLK
      generalize s[k].toNat = x at d0 hIR
      clear hsk hks
      cases hr : isR s k with
      | true =>
        rw [hr] at hIR
        have HRS2 : Hid (refsL s vs (k + 1) = L ++ [y]) := by
          have := HRS.out
          rw [hr] at this
          exact this
        clear hr HRS
        go_wp2_with (refine wpList_push wr (by rfl) _ _ (by rfl) T.heap.size u5 L y HOW.out (by rfl) (by rfl) HLK.out HB.out.size ?_; intro g2 c2 w6 hown6 hb6 hB6; have HO6 : Hid (_) := hown6; have HB6 : Hid (Below T.heap.size T w6) := HB.out.trans hb6; clear hown6 hb6 hB6)
        go_roundw
        case rel => exact ⟨k + 1, by omega, by go_num, by rw [HRS2.out]; exact HO6.out, HB6.out⟩
        case measure => simp [intOf]; omega
      | false =>
        rw [hr] at hIR
        have HRS2 : Hid (refsL s vs (k + 1) = L) := by
          have := HRS.out
          rw [hr] at this
          exact this
        clear hr HRS
        go_wp2
        go_roundw
        case rel => exact ⟨k + 1, by omega, by go_num, by rw [HRS2.out]; exact HOW.out, HB.out⟩
        case measure => simp [intOf]; omega
    · obtain rfl : k = n := by omega
      go_wp2
      go_ret
      refine ⟨u5, rfl, ?_, HB0.out.trans (HB.out.mono HB0.out.size)⟩
      refine ⟨HOW.out.1, ?_⟩
      rcases HOW.out.2 with q | ⟨g2, c2, cur, e, hg0, r⟩
      · exact .inl q
      · exact .inr ⟨g2, c2, cur, e, Nat.le_trans HB0.out.size hg0, r⟩
end Go.Proofs.Ythjfgibflbbgmaa.obj
