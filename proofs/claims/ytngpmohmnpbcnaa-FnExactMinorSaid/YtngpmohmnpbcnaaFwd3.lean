/-
  An object with its references turned, by the specification.
-/
import Derived.Test.YtngpmohmnpbcnaaFwd2
namespace Go.Proofs.Ytngpmohmnpbcnaa.obj
open Go.RowKit
open kinds ints ref

set_option maxHeartbeats 2000000 in
set_option maxRecDepth 20000 in
theorem l4fwd_any (w : World) (a : Option Addr) (cap : Nat) (xs : List ByteArray) (p : Nat) (b : Option Addr) (vcap : Nat) (vs : List Int) (c d : Option Addr) (cc cd : Nat) (fr to : List Int) (hl : Strs w a xs) (hp : p < xs.length) (hs : vs.length = xs[p].size) (h23 : vs.length ≤ 23) (hvs : Nums w b vs) (hn : fr.length ≤ 1048576) (hft : fr.length = to.length) (hc : Nums w c fr) (hd : Nums w d to) :
    Calls Try.prog 76 #[.slice a xs.length cap, .agg #[.int .i64 (p : Int), .slice b vs.length vcap], .slice c fr.length cc, .slice d to.length cd] w fun e w' => FOut (p : Int) vs.length (fwdL (fwd fr to) xs[p] vs vs.length) w e w' := by
  obtain ⟨n, hvn⟩ : ∃ n, n = vs.length := ⟨_, rfl⟩
  rw [← hvn] at hs h23 ⊢
  obtain ⟨w1, hw1⟩ : ∃ w1, w1 = w.alloc (.cells #[.int .i64 (p : Int), .slice b n vcap] 52) := ⟨_, rfl⟩
  obtain ⟨W, hW⟩ : ∃ W, W = w1.alloc (.cells #[.int .i64 0, .slice none 0 0] 52) := ⟨_, rfl⟩
  obtain ⟨V, hV⟩ : ∃ V, V = W.alloc (.cells #[.int .i64 (p : Int), .slice none 0 0] 52) := ⟨_, rfl⟩
  have HV : Hid (V = ((w.alloc (.cells #[.int .i64 (p : Int), .slice b n vcap] 52)).alloc (.cells #[.int .i64 0, .slice none 0 0] 52)).alloc (.cells #[.int .i64 (p : Int), .slice none 0 0] 52)) := by rw [hW, hw1] at hV; exact hV
  have hb1 : Below w.heap.size w w1 := by rw [hw1]; exact (Below.refl _ _).alloc (Nat.le_refl _) _
  have hP : Pair w1 W := by rw [hW]; exact Pair.start w1 _
  have hs1 : w1.heap.size = w.heap.size + 1 := by rw [hw1]; simp
  have hs2 : W.heap.size = w.heap.size + 2 := by rw [hW]; simp [hs1]
  have hC0 : OBox W W.heap.size (p : Int) [] (.slice none 0 0) V := by rw [hV]; exact OBox.start W W _ _ (Below.refl _ _)
  have hb0 : Below w.heap.size w W := hb1.trans (hP.below.mono hb1.size)
  have HP : Hid (Pair w1 W) := hP
  have HB1 : Hid (Below w.heap.size w w1) := hb1
  have HS1 : Hid (w1.heap.size = w.heap.size + 1) := hs1
  have HC0 : Hid (OBox W (w.heap.size + 2) (p : Int) [] (.slice none 0 0) V) := by rw [hs2] at hC0; exact hC0
  have q0 : W.cell? ⟨w.heap.size, 0, none⟩ = some (.int .i64 (p : Int)) := by rw [hW, World.cell?_alloc_past _ _ _ (by simp [hs1]), hw1, World.cell?_alloc_new]; rfl
  have q1 : W.cell? ⟨w.heap.size, 1, none⟩ = some (.slice b n vcap) := by rw [hW, World.cell?_alloc_past _ _ _ (by simp [hs1]), hw1, World.cell?_alloc_new]; rfl
  obtain ⟨b2, off, rfl, c0⟩ := hl p hp
  have hb2 : b2 < w.heap.size := World.block_lt_of_cell? w _ c0
  have HK : Hid (∀ w', Below W.heap.size W w' → w'.cell? ⟨w.heap.size, 0, none⟩ = some (.int .i64 (p : Int)) ∧ w'.cell? ⟨w.heap.size, 1, none⟩ = some (.slice b n vcap) ∧ w'.cell? ⟨b2, off + p, none⟩ = some (.string xs[p])) := fun w' h =>
    ⟨by rw [h.cell (p := ⟨w.heap.size, 0, none⟩) (by show w.heap.size < _; omega)]; exact q0, by rw [h.cell (p := ⟨w.heap.size, 1, none⟩) (by show w.heap.size < _; omega)]; exact q1, by rw [h.cell (p := ⟨b2, off + p, none⟩) (by show b2 < _; omega), hb0.cell (p := ⟨b2, off + p, none⟩) hb2]; exact c0⟩
  have HNV : Hid (∀ w', Below W.heap.size W w' → Nums w' b vs) := fun w' h => (hvs.below hb0).below h
  have HFW : Hid (∀ (r : Int) w', Below W.heap.size W w' → Calls _ _ _ w' _) := fun r w' h => spec_fwd w' c d cc cd fr to r hn hft ((hc.below hb0).below h) ((hd.below hb0).below h)
  have HSS : Hid (n = xs[p].size) := hs
  have HVN : Hid (n = vs.length) := hvn
  have HFT : Hid (fr.length = to.length) := hft
  have hpi : (p : Int) < (xs.length : Int) := by omega
  have hp0 : (0 : Int) ≤ (p : Int) := by omega
  generalize xs[p] = s at HK HSS ⊢
  clear hw1 hW hV hb1 hP hs1 hs2 hC0 hb0 q0 q1 c0 hb2 hl hvs hc hd hs hvn hft
  go_enter Try.func76, Try.ntmps76
  go_wp2
  rw [← HV.out]
  go_loopw [10] (fun i wr => ∃ (k : Nat) (v : Value), k ≤ n ∧ i = .int .i64 (k : Int) ∧ OBox W (w.heap.size + 2) (p : Int) (fwdL (fwd fr to) s vs k) v wr) (fun i _ => n - (intOf i).toNat)
  case atStart => exact ⟨0, _, Nat.zero_le _, rfl, HC0.out⟩
  case round =>
    obtain ⟨k, v, hk, rfl, hbox⟩ := hrel
    have HX : Hid (OBox W (w.heap.size + 2) (p : Int) (fwdL (fwd fr to) s vs k) v wr) := hbox
    clear hbox
    obtain ⟨m0, m1, m2⟩ := HK.out wr HX.out.below
    have c4 := HX.out.c0
    have c5 := HX.out.c1
    have f5 := HX.out.fr 1
    by_cases hlt : k < n
    · have hlti : (k : Int) < (n : Int) := by omega
      have hk0 : (0 : Int) ≤ (k : Int) := by omega
      have hks : k < s.size := by have := HSS.out; omega
      have hksi : (k : Int) < (s.size : Int) := by omega
      have hIR := isR_at s k hks
      obtain ⟨b3, o3, rfl, c1⟩ := HNV.out wr HX.out.below k (by have := HVN.out; omega)
      rw [getD_at vs k (by have := HVN.out; omega)] at c1
      have HS : Hid (fwdL (fwd fr to) s vs (k + 1) = fwdL (fwd fr to) s vs k ++ [if isR s k = true then fwd fr to (vs.getD k 0) else vs.getD k 0]) := rfl
      have HLK : Hid ((fwdL (fwd fr to) s vs k).length ≤ 1048576) := by show (fwdL (fwd fr to) s vs k).length ≤ _; rw [fwdL_len]; omega
      have HW2 : Hid (∀ w', Below W.heap.size W w' → Calls _ _ _ w' _) := HFW.out (vs.getD k 0)
      generalize fwdL (fwd fr to) s vs k = L at HX HS HLK
      generalize fwd fr to (vs.getD k 0) = y at HS HW2
      generalize vs.getD k 0 = x at c1 HS HW2
      cases hr : isR s k with
      | true =>
        rw [hr] at hIR
        have HS2 : Hid (fwdL (fwd fr to) s vs (k + 1) = L ++ [y]) := by
          have := HS.out
          rw [hr, if_pos rfl] at this
          exact this
        clear hr HS
        go_wp2_with fail
        refine (HW2.out wr HX.out.below).mono ?_
        rintro e w4 ⟨rfl, rfl⟩
        go_wp2_with (refine wpList_push wr (by rfl) _ _ (by rfl) (w.heap.size + 2 + 1) v L y HX.out.own (by rfl) (by rfl) HLK.out HX.out.lt ?_; intro g cap6 w6 hown6 hb6 hB6; have HX6 : Hid (_) := HX.out.step hown6 hb6; obtain ⟨k6, f6⟩ := HX.out.kept hb6; clear hown6 hb6 hB6)
        go_roundw
        case rel => exact ⟨k + 1, _, by omega, by go_num, by rw [HS2.out]; exact HX6.out⟩
        case measure => simp [intOf]; omega
      | false =>
        rw [hr] at hIR
        have HS2 : Hid (fwdL (fwd fr to) s vs (k + 1) = L ++ [x]) := by
          have := HS.out
          rw [hr, if_neg (by decide)] at this
          exact this
        clear hr HS
        go_wp2_with (refine wpList_push wr (by rfl) _ _ (by rfl) (w.heap.size + 2 + 1) v L x HX.out.own (by rfl) (by rfl) HLK.out HX.out.lt ?_; intro g cap6 w6 hown6 hb6 hB6; have HX6 : Hid (_) := HX.out.step hown6 hb6; obtain ⟨k6, f6⟩ := HX.out.kept hb6; clear hown6 hb6 hB6)
        go_roundw
        case rel => exact ⟨k + 1, _, by omega, by go_num, by rw [HS2.out]; exact HX6.out⟩
        case measure => simp [intOf]; omega
    · obtain rfl : n = k := by omega
      have HF2 : Hid (Pair w1 wr) := HP.out.later HX.out.below
      have HL2 : Hid ((fwdL (fwd fr to) s vs n).length = n) := fwdL_len _ _ _ _
      obtain ⟨a3, g3, cap3, rfl, hg3, hin⟩ := ints_of_row HX.out.own
      rw [HL2.out] at c5 HX
      have HIN : Hid (Ints wr a3 g3 (fwdL (fwd fr to) s vs n)) := hin
      have v0 := HF2.out.cell 0 _ rfl
      have v1 := HF2.out.cell 1 _ rfl
      have z0 := HF2.out.free 0
      have z1 := HF2.out.free 1
      rw [HS1.out] at v0 v1 z0 z1
      have HC2 : Hid (∀ x0 x1, _) := pair_set v0 v1
      clear hin
      go_wp2
      refine bodyPost_ret (v := .agg #[.int .i64 (p : Int), .slice a3 n cap3]) ?_ rfl ?_
      · obtain ⟨q0, q1⟩ := HC2.out (.int .i64 (p : Int)) (.slice a3 n cap3)
        simp [results, Try.results76, go_sem, q0, q1]
      · have hq : ∀ i, w.heap.size ≤ (⟨w.heap.size + 1, i, none⟩ : Addr).block := fun i => by show w.heap.size ≤ w.heap.size + 1; omega
        have hBB : Below w.heap.size w wr := HB1.out.trans (HF2.out.below.mono HB1.out.size)
        refine ⟨a3, g3, cap3, rfl, by omega, ?_, (hBB.setCell (p := ⟨w.heap.size + 1, 0, none⟩) (hq 0) _).setCell (p := ⟨w.heap.size + 1, 1, none⟩) (hq 1) _⟩
        exact (HIN.out.grown (grown_set _ _ _ _) (by omega)).grown (grown_set _ _ _ _) (by omega)
end Go.Proofs.Ytngpmohmnpbcnaa.obj
