/-
  A copy of whole numbers; an object with other references, by the program.
-/
import Derived.Test.YthjfgibflbbgmaaFwd1
import Derived.Deep.WholeRow
namespace Go.Proofs.Ythjfgibflbbgmaa.obj
open Go.RowKit
open kinds ints ref

theorem not_nil (b off n c : Nat) (w : World) : (binOp BinOp.eql 23 (.slice (some ⟨b, off, none⟩) n c) (.slice none 0 0)).run Try.prog w = .ok (.bool false) w := by kernel_rfl
theorem Ints.put {w : World} {a : Option Addr} {g : Nat} {xs : List Int} (h : Ints w a g xs) (k : Nat) (y : Int) : Ints (w.setCell ⟨g, k, none⟩ (.int .i64 y)) a g (xs.set k y) := fun i hi => by
  have hi' : i < xs.length := by simpa using hi
  obtain ⟨e, h0, h1⟩ := h i hi'
  refine ⟨e, ?_, by rw [World.frozen?_setCell]; exact h1⟩
  by_cases q : k = i
  · subst q
    rw [World.cell?_setCell_same _ _ _ h0]
    simp
  · rw [World.cell?_setCell_other _ _ _ _ (fun z => q (by simpa using congrArg Addr.off z)), h0, List.getElem_set_ne q]
set_option maxHeartbeats 1000000 in
set_option maxRecDepth 20000 in
theorem clone_any (w : World) (a : Option Addr) (n cap : Nat) (xs : List Int) (hx : xs.length = n) (h0 : 0 < n) (hn : n ≤ 1048576) (hl : Nums w a xs) :
    Calls Try.prog 77 #[.slice a n cap] w fun e w' => ∃ g c, e = .returned (.slice (some ⟨g, 0, none⟩) n c) ∧ w.heap.size ≤ g ∧ Ints w' (some ⟨g, 0, none⟩) g xs ∧ Below w.heap.size w w' := by
  subst hx
  obtain ⟨b, off, rfl, _⟩ := hl 0 h0
  obtain ⟨i0, hi, hzz⟩ := Option.map_eq_some_iff.1 infoInt64
  simp only [Prod.mk.injEq] at hzz
  obtain ⟨hz0, hz1, hz2⟩ := hzz
  obtain ⟨X, hX⟩ : ∃ X, X = w.alloc (.cells #[] 2) := ⟨_, rfl⟩
  have HX : Hid (X = w.alloc (.cells #[] 2)) := hX
  have hb0 : Below w.heap.size w X := by rw [hX]; exact (Below.refl _ _).alloc (Nat.le_refl _) _
  have hown : X.ownsRow w.heap.size 2 1 (.slice (some ⟨w.heap.size, 0, none⟩) 0 0) 0 [] := ⟨rfl, .inr ⟨w.heap.size, 0, #[], rfl, Nat.le_refl _, by rw [hX]; exact heap_alloc_last w _, Nat.le_refl _, by unfold maxLen; omega, rfl, rfl⟩⟩
  have HOW : Hid (X.ownsRow w.heap.size 2 1 (.slice (some ⟨w.heap.size, 0, none⟩) 0 0) 0 []) := hown
  have HB0 : Hid (Below w.heap.size w X) := hb0
  have HNC : Hid (∀ j u, (xs.map (Value.int .i64))[j]? = some u → X.cell? ((⟨b, off, none⟩ : Addr).add j) = some u) := fun j u hj => by
    rw [List.getElem?_map] at hj
    obtain ⟨y, hy, rfl⟩ := Option.map_eq_some_iff.1 hj
    obtain ⟨hj', rfl⟩ := List.getElem?_eq_some_iff.1 hy
    obtain ⟨b', off', e, hc⟩ := (hl.below hb0) j hj'
    simp at e
    obtain ⟨rfl, rfl⟩ := e
    have hadd : (⟨b, off, none⟩ : Addr).add j = ⟨b, off + j, none⟩ := by unfold Addr.add; split <;> simp_all
    rw [hadd]
    exact hc
  have HLN : Hid ((xs.map (Value.int .i64)).length = xs.length * 1) := by show (xs.map (Value.int .i64)).length = _; simp
  have H1C : Hid (∀ u ∈ xs.map (Value.int .i64), u.oneCell' = true) := fun u hu => by
    obtain ⟨y, _, rfl⟩ := List.mem_map.1 hu
    rfl
  have hnil := not_nil b off xs.length cap
  clear hX hl hb0 hown
  go_enter Try.func77, Try.ntmps77
  go_wp2_with (rw [← HX.out]; refine wpList_append_lies X (by rfl) _ _ 23 (by rfl) w.heap.size 2 i0 (.int .i64 0) 1 8 Try.underlying23 hi hz0 hz1 hz2 rfl (by decide) (.slice (some ⟨w.heap.size, 0, none⟩) 0 0) 0 [] (by rfl) HOW.out ⟨b, off, none⟩ xs.length cap (xs.map (Value.int .i64)) (by rfl) HLN.out HNC.out H1C.out h0 (by unfold maxLen; omega) (by omega) HB0.out.size _ rfl ?_; intro g c w6 hown6 hgrow6 hat6 hlt6; have HO6 : Hid (_) := hown6; have HB6 : Hid (Below w.heap.size w w6) := own_step HOW.out HB0.out HB0.out.size hgrow6; clear hown6 hgrow6 hat6 hlt6)
  go_ret
  have h6 := HO6.out
  rw [Nat.zero_add, List.nil_append] at h6
  obtain ⟨a', g', c', e', hg', hin⟩ := ints_of_row h6
  simp at e'
  obtain ⟨rfl, rfl⟩ := e'
  have hgg : g = g' := by
    have := (hin 0 h0).1
    simpa using this
  subst hgg
  exact ⟨g, c, rfl, hg', hin, HB6.out⟩
/-- The first k numbers of an object, its references turned. -/
def fwdL (f : Int → Int) (s : ByteArray) (vs : List Int) : Nat → List Int
  | 0 => []
  | k + 1 => fwdL f s vs k ++ [if isR s k = true then f (vs.getD k 0) else vs.getD k 0]
theorem fwdL_len (f : Int → Int) (s : ByteArray) (vs : List Int) (k : Nat) : (fwdL f s vs k).length = k := by
  induction k with
  | zero => rfl
  | succ k ih => rw [fwdL, List.length_append, ih]; rfl
theorem refsL_pre (s : ByteArray) (vs : List Int) (k n : Nat) (h : k ≤ n) : ∃ R, refsL s vs n = refsL s vs k ++ R := by
  induction n with
  | zero => rw [show k = 0 by omega]; exact ⟨[], rfl⟩
  | succ n ih =>
    by_cases e : k = n + 1
    · rw [e]; exact ⟨[], by simp⟩
    · obtain ⟨R, hR⟩ := ih (by omega)
      rw [refsL]
      split
      · exact ⟨R ++ [vs.getD n 0], by rw [hR, List.append_assoc]⟩
      · exact ⟨R, hR⟩
theorem refsL_next (s : ByteArray) (vs : List Int) (k n : Nat) (h : k < n) (hr : isR s k = true) (f : Int → Int) : (refsL s vs k).length < ((refsL s vs n).map f).length ∧ ((refsL s vs n).map f).getD (refsL s vs k).length 0 = f (vs.getD k 0) := by
  obtain ⟨R, hR⟩ := refsL_pre s vs (k + 1) n (by omega)
  rw [refsL, if_pos hr] at hR
  rw [hR]
  constructor
  · simp
  · simp
theorem fwd_set (f : Int → Int) (s : ByteArray) (vs : List Int) (k : Nat) (h : k < vs.length) (hr : isR s k = true) : (fwdL f s vs k ++ vs.drop k).set k (f (vs.getD k 0)) = fwdL f s vs (k + 1) ++ vs.drop (k + 1) := by
  rw [List.set_append_right _ _ (by rw [fwdL_len]; exact Nat.le_refl _), fwdL_len, Nat.sub_self, List.drop_eq_getElem_cons h, List.set_cons_zero, fwdL, if_pos hr, List.append_assoc]
  rfl
theorem fwd_skip (f : Int → Int) (s : ByteArray) (vs : List Int) (k : Nat) (h : k < vs.length) (hr : isR s k = false) : fwdL f s vs k ++ vs.drop k = fwdL f s vs (k + 1) ++ vs.drop (k + 1) := by
  rw [fwdL, hr, if_neg (by decide), List.append_assoc, List.drop_eq_getElem_cons h, getD_at vs k h]
  rfl
/-- An object that is answered: its type, and numbers of its own. -/
def FOut (t : Int) (n : Nat) (vs : List Int) (w : World) (e : Ending) (w' : World) : Prop :=
  ∃ a g cap, e = .returned (.agg #[.int .i64 t, .slice a n cap]) ∧ w.heap.size ≤ g ∧ Ints w' a g vs ∧ Below w.heap.size w w'
set_option maxHeartbeats 2000000 in
set_option maxRecDepth 20000 in
theorem withRefs_any (w : World) (a : Option Addr) (cap : Nat) (xs : List ByteArray) (p : Nat) (b : Option Addr) (vcap : Nat) (vs : List Int) (f : Int → Int) (c : Option Addr) (cc : Nat) (hl : Strs w a xs) (hp : p < xs.length) (hs : vs.length = xs[p].size) (h23 : vs.length ≤ 23) (h1 : 1 ≤ vs.length) (hvs : Nums w b vs) (hc : Nums w c ((refsL xs[p] vs vs.length).map f)) :
    Calls Try.prog 49 #[.slice a xs.length cap, .agg #[.int .i64 (p : Int), .slice b vs.length vcap], .slice c ((refsL xs[p] vs vs.length).map f).length cc] w fun e w' => FOut (p : Int) vs.length (fwdL f xs[p] vs vs.length) w e w' := by
  obtain ⟨n, hvn⟩ : ∃ n, n = vs.length := ⟨_, rfl⟩
  rw [← hvn] at hs h23 h1 hc ⊢
  obtain ⟨W, hW⟩ : ∃ W, W = (w.alloc (.cells #[.int .i64 (p : Int), .slice b n vcap] 53)).alloc (.cells #[.int .i64 0, .slice none 0 0] 53) := ⟨_, rfl⟩
  have HW : Hid (W = (w.alloc (.cells #[.int .i64 (p : Int), .slice b n vcap] 53)).alloc (.cells #[.int .i64 0, .slice none 0 0] 53)) := hW
  have hb0 : Below w.heap.size w W := by rw [hW]; exact ((Below.refl _ _).alloc (Nat.le_refl _) _).alloc (by simp) _
  have hsz : W.heap.size = w.heap.size + 2 := by rw [hW]; simp
  have HB0 : Hid (Below w.heap.size w W) := hb0
  have k0 : ∀ o, W.cell? ⟨w.heap.size, o, none⟩ = (#[Value.int .i64 (p : Int), .slice b n vcap] : Array Value)[o]? := fun o => by rw [hW, World.cell?_alloc_past _ _ _ (by simp), World.cell?_alloc_at _ _ _ _ (by simp)]
  have k1 : ∀ o, W.cell? ⟨w.heap.size + 1, o, none⟩ = (#[Value.int .i64 0, .slice none 0 0] : Array Value)[o]? := fun o => by rw [hW, World.cell?_alloc_at _ _ _ _ (by simp)]
  have z1 : ∀ o, W.frozen? ⟨w.heap.size + 1, o, none⟩ = false := fun o => by rw [hW, World.frozen?_alloc_at _ _ _ _ (by simp)]
  have HK : Hid (∀ w', Below W.heap.size W w' → w'.cell? ⟨w.heap.size, 0, none⟩ = some (.int .i64 (p : Int)) ∧ w'.cell? ⟨w.heap.size, 1, none⟩ = some (.slice b n vcap) ∧ w'.cell? ⟨w.heap.size + 1, 0, none⟩ = some (.int .i64 0) ∧ w'.cell? ⟨w.heap.size + 1, 1, none⟩ = some (.slice none 0 0) ∧ w'.frozen? ⟨w.heap.size + 1, 0, none⟩ = false ∧ w'.frozen? ⟨w.heap.size + 1, 1, none⟩ = false) := fun w' h =>
    ⟨by rw [h.cell (p := ⟨w.heap.size, 0, none⟩) (by show w.heap.size < _; omega), k0]; rfl, by rw [h.cell (p := ⟨w.heap.size, 1, none⟩) (by show w.heap.size < _; omega), k0]; rfl, by rw [h.cell (p := ⟨w.heap.size + 1, 0, none⟩) (by show w.heap.size + 1 < _; omega), k1]; rfl, by rw [h.cell (p := ⟨w.heap.size + 1, 1, none⟩) (by show w.heap.size + 1 < _; omega), k1]; rfl, by rw [h.frozen (p := ⟨w.heap.size + 1, 0, none⟩) (by show w.heap.size + 1 < _; omega), z1], by rw [h.frozen (p := ⟨w.heap.size + 1, 1, none⟩) (by show w.heap.size + 1 < _; omega), z1]⟩
  have HSZ : Hid (W.heap.size = w.heap.size + 2) := hsz
  have HCL : Hid (∀ w', w' = W → Calls _ _ _ w' _) := fun w' q => clone_any w' b n vcap vs hvn.symm (by omega) (by omega) (q ▸ hvs.below hb0)
  obtain ⟨b2, off, rfl, c0⟩ := hl p hp
  have hb2 : b2 < w.heap.size := World.block_lt_of_cell? w _ c0
  have HC0 : Hid (∀ w', Below W.heap.size W w' → w'.cell? ⟨b2, off + p, none⟩ = some (.string xs[p])) := fun w' h => by
    rw [h.cell (p := ⟨b2, off + p, none⟩) (by show b2 < _; omega), hb0.cell (p := ⟨b2, off + p, none⟩) hb2]; exact c0
  have HCV : Hid (∀ w', (convert 9 45 (.string xs[p])).run Try.prog w' = .ok (.slice (some ⟨w'.heap.size, 0, none⟩) xs[p].size (bb.capOf w' xs[p])) (bb.told w' xs[p])) := fun w' => bb.run_told xs[p] w'
  have HTB : Hid (∀ w', Below w'.heap.size w' (bb.told w' xs[p]) ∧ (bb.told w' xs[p]).heap.size = w'.heap.size + 1 ∧ bb.Bytes (bb.told w' xs[p]) w'.heap.size xs[p].data.toList) := fun w' => ⟨bb.told_below w' _, bb.told_size w' _, bb.told_bytes w' _⟩
  have HCN : Hid (∀ w', Below W.heap.size W w' → Nums w' c ((refsL xs[p] vs n).map f)) := fun w' h => (hc.below hb0).below h
  have HSS : Hid (n = xs[p].size) := hs
  have HVN : Hid (n = vs.length) := hvn
  have hpi : (p : Int) < (xs.length : Int) := by omega
  have hp0 : (0 : Int) ≤ (p : Int) := by omega
  rw [← hs] at HCV
  generalize xs[p] = s at HCV HTB HCN HSS HC0 ⊢
  obtain ⟨R, hR⟩ : ∃ R, R = (refsL s vs n).map f := ⟨_, rfl⟩
  rw [← hR] at HCN ⊢
  have HRR : Hid (R = (refsL s vs n).map f) := hR
  clear hW hl hvs hc hb0 hsz k0 k1 z1 c0 hb2 hs hvn hR
  obtain ⟨m0, m1, _⟩ := HK.out W (Below.refl _ _)
  go_enter Try.func49, Try.ntmps49
  go_wp2_with fail
  rw [← HW.out]
  refine (HCL.out W rfl).mono ?_
  rintro e w2 ⟨g2, c2, rfl, hg2, hin2, hb2⟩
  have HB2 : Hid (Below W.heap.size W w2) := hb2
  have hcv := HCV.out w2
  obtain ⟨htb, hts, hty⟩ := HTB.out w2
  generalize bb.capOf w2 s = cp at hcv
  generalize bb.told w2 s = T at hcv htb hts hty
  have HT0 : Hid (Below W.heap.size W T) := HB2.out.trans (htb.mono HB2.out.size)
  have HIN : Hid (Ints T (some ⟨g2, 0, none⟩) g2 vs) := hin2.below htb
  have HGG : Hid (g2 < w2.heap.size ∧ W.heap.size ≤ g2) := ⟨hin2.lt (by have := HVN.out; omega), hg2⟩
  have HTS : Hid (T.heap.size = w2.heap.size + 1) := hts
  have HTY : Hid (bb.Bytes T w2.heap.size s.data.toList) := hty
  clear hb2 hin2 htb hts hty m0 m1 hg2
  obtain ⟨m0, m1, _⟩ := HK.out w2 HB2.out
  have c0 := HC0.out w2 HB2.out
  go_wp2
  clear hcv c0 m0 m1 hpi hp0
  have HBY : Hid (∀ wr, T.grownBy wr (some g2) → bb.Bytes wr w2.heap.size s.data.toList) := fun wr h j hj => by
    have hbk := h.block w2.heap.size (by have := HTS.out; omega) (fun q => by have := Option.some.inj q; have := HGG.out; omega)
    have hq := HTY.out j hj
    exact ⟨by rw [World.cell?_of_block (a := ⟨w2.heap.size, j, none⟩) hbk]; exact hq.1, by rw [World.frozen?_of_block (a := ⟨w2.heap.size, j, none⟩) hbk]; exact hq.2⟩
  have HLA : Hid (∀ wr, T.grownBy wr (some g2) → Below W.heap.size W wr) := fun wr h => HT0.out.trans (below_of_grown h HT0.out.size HGG.out.2)
  go_loopw [8, 21] (fun m i wr => ∃ k : Nat, k ≤ n ∧ i = .int .i64 (k : Int) ∧ m = .int .i64 ((refsL s vs k).length : Int) ∧ Ints wr (some ⟨g2, 0, none⟩) g2 (fwdL f s vs k ++ vs.drop k) ∧ T.grownBy wr (some g2)) (fun _ i _ => n - (intOf i).toNat)
  case atStart => exact ⟨0, Nat.zero_le _, rfl, rfl, HIN.out, grown_refl _ _⟩
  case round =>
    obtain ⟨k, hk, rfl, rfl, hin, hgr⟩ := hrel
    have HI : Hid (Ints wr (some ⟨g2, 0, none⟩) g2 (fwdL f s vs k ++ vs.drop k)) := hin
    have HG : Hid (T.grownBy wr (some g2)) := hgr
    clear hin hgr
    by_cases hlt : k < n
    · have hlti : (k : Int) < (n : Int) := by omega
      have hk0 : (0 : Int) ≤ (k : Int) := by omega
      have hks : k < s.size := by have := HSS.out; omega
      have hkv : k < vs.length := by have := HVN.out; omega
      have d0 := (HBY.out wr HG.out k (by simpa using hks)).1
      have hIR := isR_at s k hks
      have hsk : s.data.toList[k]'(by simpa using hks) = s[k] := rfl
      rw [hsk] at d0
      have hll := refsL_len s vs k
      obtain ⟨_, e0, f0⟩ := HI.out k (by rw [List.length_append, fwdL_len, List.length_drop]; omega)
      generalize (fwdL f s vs k ++ vs.drop k)[k]'(by rw [List.length_append, fwdL_len, List.length_drop]; omega) = x0 at e0
      generalize s[k].toNat = x at d0 hIR
      clear hsk hks
      cases hr : isR s k with
      | true =>
        rw [hr] at hIR
        obtain ⟨hnx, hny⟩ := refsL_next s vs k n hlt hr f
        rw [← HRR.out] at hnx hny
        obtain ⟨b3, o3, rfl, c1⟩ := HCN.out wr (HLA.out wr HG.out) _ hnx
        rw [getD_at R _ hnx, hny] at c1
        have HIP : Hid (Ints (wr.setCell ⟨g2, k, none⟩ (.int .i64 (f (vs.getD k 0)))) (some ⟨g2, 0, none⟩) g2 (fwdL f s vs (k + 1) ++ vs.drop (k + 1))) := by
          have := Ints.put HI.out k (f (vs.getD k 0))
          rw [fwd_set f s vs k hkv hr] at this
          exact this
        have HLS : Hid ((refsL s vs (k + 1)).length = (refsL s vs k).length + 1) := by
          show (refsL s vs (k + 1)).length = _
          rw [refsL, if_pos hr]; simp
        generalize (refsL s vs k).length = q at c1 hnx HLS hll ⊢
        generalize f (vs.getD k 0) = y at c1 HIP
        have hqi : (q : Int) < (R.length : Int) := by omega
        have hq0 : (0 : Int) ≤ (q : Int) := by omega
        clear hr hny hnx hkv
        go_wp2
        go_roundw
        case rel => exact ⟨k + 1, by omega, by go_num, by rw [HLS.out]; go_num, HIP.out, grown_trans HG.out (grown_set _ _ _ _)⟩
        case measure => simp [intOf]; omega
      | false =>
        rw [hr] at hIR
        have HIP : Hid (Ints wr (some ⟨g2, 0, none⟩) g2 (fwdL f s vs (k + 1) ++ vs.drop (k + 1))) := by
          rw [← fwd_skip f s vs k hkv hr]; exact HI.out
        have HLS : Hid ((refsL s vs (k + 1)).length = (refsL s vs k).length) := by
          show (refsL s vs (k + 1)).length = _
          rw [refsL, hr, if_neg (by decide)]
        generalize (refsL s vs k).length = q at HLS hll ⊢
        clear hr hkv
        go_wp2
        go_roundw
        case rel => exact ⟨k + 1, by omega, by go_num, by rw [HLS.out], HIP.out, HG.out⟩
        case measure => simp [intOf]; omega
    · obtain rfl : n = k := by omega
      have HWB := HLA.out wr HG.out
      obtain ⟨m0, m1, m2, m3, y0, y1⟩ := HK.out wr HWB
      have HI2 : Hid (Ints wr (some ⟨g2, 0, none⟩) g2 (fwdL f s vs n)) := by
        have := HI.out
        rw [List.drop_eq_nil_of_le (by have := HVN.out; omega), List.append_nil] at this
        exact this
      have HEB : Hid (Below w.heap.size w wr) := HB0.out.trans (HWB.mono HB0.out.size)
      have HC2 : Hid (∀ x0 x1, _) := pair_set m2 m3
      clear HWB
      go_wp2
      refine bodyPost_ret (v := .agg #[.int .i64 (p : Int), .slice (some ⟨g2, 0, none⟩) n c2]) ?_ rfl ?_
      · obtain ⟨q0, q1⟩ := HC2.out (.int .i64 (p : Int)) (.slice (some ⟨g2, 0, none⟩) n c2)
        simp [results, Try.results49, go_sem, q0, q1]
      · have hgg := HGG.out
        have hsz := HSZ.out
        refine ⟨_, g2, c2, rfl, by omega, ?_, ?_⟩
        · exact (HI2.out.grown (grown_set _ _ _ _) (by omega)).grown (grown_set _ _ _ _) (by omega)
        · exact (HEB.out.setCell (p := ⟨w.heap.size + 1, 0, none⟩) (by show w.heap.size ≤ w.heap.size + 1; omega) _).setCell (p := ⟨w.heap.size + 1, 1, none⟩) (by show w.heap.size ≤ w.heap.size + 1; omega) _
end Go.Proofs.Ythjfgibflbbgmaa.obj
