/-
  A work list's lookup and what it finds, by the program.
-/
import Derived.Test.YtngpmohmnpbcnaaClPush
import Derived.Test.YtngpmohmnpbcnaaYOpen3
namespace Go.Proofs.Ytngpmohmnpbcnaa.cl
open Go.RowKit
open kinds ints ref obj nu

theorem indexY_any (w : World) (a : Option Addr) (n cap : Nat) (fr : List Int) (r : Int) (hx : fr.length = n) (hn : n ≤ 1048576) (hl : Nums w a fr) :
    Calls Try.prog 112 #[.slice a n cap, .int .i64 r] w fun e w' => e = .returned (.int .i64 (seekI r fr n)) ∧ w = w' := by
  have HN : Hid (Nums w a fr) := hl
  have HXN : Hid (fr.length = n) := hx
  obtain ⟨res, hres⟩ : ∃ x, x = seekI r fr n := ⟨_, rfl⟩
  rw [← hres]
  have HR : Hid (res = seekI r fr n) := hres
  clear hl hres hx
  go_enter Try.func112, Try.ntmps112
  go_wp2
  go_loopw [8] (fun i wr => ∃ k : Nat, k ≤ n ∧ i = .int .i64 (k : Int) ∧ seekI r fr k = -1 ∧ w = wr) (fun i _ => n - (intOf i).toNat)
  case atStart => exact ⟨0, Nat.zero_le _, rfl, rfl, rfl⟩
  case round =>
    obtain ⟨k, hk, rfl, hok, rfl⟩ := hrel
    have HOK : Hid (seekI r fr k = -1) := hok
    clear hok
    by_cases hlt : k < n
    · have hlti : (k : Int) < (n : Int) := by omega
      obtain ⟨b, off, rfl, c0⟩ := HN.out k (by have := HXN.out; omega)
      rw [getD_of fr k (by have := HXN.out; omega)] at c0
      have HS : Hid (seekI r fr (k + 1) = if fr.getD k 0 = r then (k : Int) else -1) := by
        show seekI r fr (k + 1) = _
        rw [seekI, HOK.out, if_neg (by omega)]
      have HK : Hid (0 ≤ seekI r fr (k + 1) → seekI r fr n = seekI r fr (k + 1)) := seekI_keep r fr (k + 1) n (by omega)
      generalize fr.getD k 0 = x at c0 HS
      by_cases hx : r = x
      · have he : (r == x) = true := by simpa using hx
        have HR2 : Hid (res = (k : Int)) := by
          show res = _
          have h1 := HS.out
          rw [if_pos hx.symm] at h1
          rw [HR.out, HK.out (by rw [h1]; omega), h1]
        clear hx
        go_wp2
        go_ret
        have hres := HR2.out
        subst hres
        exact ⟨rfl, rfl⟩
      · have he : (r == x) = false := by simpa using hx
        have HOK2 : Hid (seekI r fr (k + 1) = -1) := by
          show seekI r fr (k + 1) = -1
          rw [HS.out, if_neg (fun q => hx q.symm)]
        clear hx
        go_wp2
        go_roundw
        case rel => exact ⟨k + 1, by omega, by go_num, HOK2.out, trivial⟩
        case measure => simp [intOf]; omega
    · obtain rfl : k = n := by omega
      have HR2 : Hid (res = -1) := by show res = -1; rw [HR.out, HOK.out]
      go_wp2
      go_ret
      exact ⟨by rw [HR2.out]; rfl, rfl⟩
theorem containsY_any (w : World) (a : Option Addr) (n cap : Nat) (fr : List Int) (r : Int) (b : Bool) (hx : fr.length = n) (hn : n ≤ 1048576) (hl : Nums w a fr) (hb : decide (r ∈ fr) = b) :
    Calls Try.prog 110 #[.slice a n cap, .int .i64 r] w fun e w' => e = .returned (.bool b) ∧ w = w' := by
  have HI : Hid (∀ w', w' = w → Calls _ _ _ w' _) := fun w' q => indexY_any w' a n cap fr r hx hn (q ▸ hl)
  have hsk := seek_has r fr
  rw [hx] at hsk
  generalize seekI r fr n = q at HI hsk
  clear hl hx hn
  cases b with
  | true =>
    have hq : (0 : Int) ≤ q := hsk.2 (of_decide_eq_true hb)
    clear hsk hb
    go_enter Try.func110, Try.ntmps110
    go_wp2_with fail
    refine (HI.out w rfl).mono ?_
    rintro e w2 ⟨rfl, rfl⟩
    go_wp2
    go_ret
    exact ⟨rfl, rfl⟩
  | false =>
    have hq : ¬ (0 : Int) ≤ q := fun h => of_decide_eq_false hb (hsk.1 h)
    have HQD : Hid (decide ((0 : Int) ≤ q) = false) := decide_eq_false hq
    clear hsk hb hq
    go_enter Try.func110, Try.ntmps110
    go_wp2_with fail
    refine (HI.out w rfl).mono ?_
    rintro e w2 ⟨rfl, rfl⟩
    go_wp2
    go_ret
    exact ⟨by show Ending.returned (.bool (decide ((0 : Int) ≤ q))) = _; rw [HQD.out], rfl⟩
theorem row_grown_below {w w' : World} {base n : Nat} {e : TypeId} {size : Nat} {v : Value} {xs : List Value} (h : w.ownsRow base e size v n xs) (hg : w.grownBy w' v.ownBlock) (hs : base ≤ w.heap.size) : Below base w w' :=
  ⟨hg.os, hg.tape, hg.output, hg.size, fun k hk => hg.block k (Nat.lt_of_lt_of_le hk hs) (fun q => by
    rcases h.2 with ⟨q1, _⟩ | ⟨g1, c1, cur, q1, q2, _⟩
    · rw [q1] at q; cases q
    · rw [q1] at q
      have q3 : some g1 = some k := q.symm
      injection q3 with q3
      omega)⟩
/-- A work list in a block of its own. -/
structure WL (b base : Nat) (v : Value) (L : List Int) (w : World) : Prop where
  cell : w.cell? ⟨b, 0, none⟩ = some v
  free : w.frozen? ⟨b, 0, none⟩ = false
  row : w.ownsRow base 69 1 v L.length (L.map (Value.int .i64))
  ne : ∀ k, v.ownBlock = some k → k ≠ b
  siz : base ≤ w.heap.size
  hb : base ≤ b
theorem WL.lt {b base : Nat} {v : Value} {L : List Int} {w : World} (h : WL b base v L w) : b < w.heap.size := World.block_lt_of_cell? w _ h.cell
theorem WL.below {b base : Nat} {v : Value} {L : List Int} {w w' : World} (h : WL b base v L w) (hb : Below w.heap.size w w') : WL b base v L w' :=
  ⟨by rw [hb.cell (p := ⟨b, 0, none⟩) h.lt]; exact h.cell, by rw [hb.frozen (p := ⟨b, 0, none⟩) h.lt]; exact h.free, row_kept h.row (grown_below none hb) (fun _ _ _ q => by cases q), h.ne, Nat.le_trans h.siz hb.size, h.hb⟩
theorem WL.pushed {b base g cap : Nat} {v : Value} {L : List Int} {w w6 : World} {y : Int} (h : WL b base v L w) (hrow : w6.ownsRow base 69 1 (.slice (some ⟨g, 0, none⟩) (L.length + 1) cap) (L.length + 1) (L.map (Value.int .i64) ++ [.int .i64 y])) (hg : w.grownBy w6 v.ownBlock) (hat : v.ownBlock = some g ∨ w.heap.size ≤ g) :
    w6.cell? ⟨b, 0, none⟩ = some v ∧ w6.frozen? ⟨b, 0, none⟩ = false ∧ WL b base (.slice (some ⟨g, 0, none⟩) (L.length + 1) cap) (L ++ [y]) (w6.setCell ⟨b, 0, none⟩ (.slice (some ⟨g, 0, none⟩) (L.length + 1) cap)) ∧ Below base w (w6.setCell ⟨b, 0, none⟩ (.slice (some ⟨g, 0, none⟩) (L.length + 1) cap)) ∧ g ≠ b := by
  have hbk : w6.heap[b]? = w.heap[b]? := hg.block b h.lt (fun q => h.ne b q.symm rfl)
  have hc6 : w6.cell? ⟨b, 0, none⟩ = some v := by rw [World.cell?_of_block (a := ⟨b, 0, none⟩) hbk]; exact h.cell
  have hf6 : w6.frozen? ⟨b, 0, none⟩ = false := by rw [World.frozen?_of_block (a := ⟨b, 0, none⟩) hbk]; exact h.free
  have hgb : g ≠ b := by
    rcases hat with q | q
    · exact h.ne g q
    · have := h.lt; omega
  have hb6 : Below base w w6 := ⟨hg.os, hg.tape, hg.output, hg.size, fun k hk => hg.block k (Nat.lt_of_lt_of_le hk h.siz) (fun q => by
    rcases h.row.2 with ⟨q1, _⟩ | ⟨g1, c1, cur, q1, q2, _⟩
    · rw [q1] at q; cases q
    · rw [q1] at q
      have q3 : some g1 = some k := q.symm
      injection q3 with q3
      omega)⟩
  refine ⟨hc6, hf6, ⟨?_, ?_, ?_, ?_, ?_, h.hb⟩, hb6.setCell (p := ⟨b, 0, none⟩) h.hb _, hgb⟩
  · exact World.cell?_setCell_same _ _ _ hc6
  · rw [World.frozen?_setCell]; exact hf6
  · have h1 := row_kept hrow (grown_set w6 b 0 (.slice (some ⟨g, 0, none⟩) (L.length + 1) cap)) (fun k r q1 q2 => by
      have q3 : some g = some k := q1
      injection q3 with q3
      injection q2 with q2
      omega)
    simpa using h1
  · intro k q
    have q3 : some g = some k := q
    injection q3 with q3
    omega
  · simp; have := hg.size; have := h.siz; omega
set_option maxHeartbeats 2000000 in
set_option maxRecDepth 20000 in
theorem find_any (w : World) (b base : Nat) (v : Value) (L : List Int) (ia : Option Addr) (ig ic : Nat) (items : List Int) (hw : WL b base v L w) (hi : Ints w ia ig items) (hin : items.length ≤ 1048576) (hne : 0 < items.length → ig ≠ b ∧ ∀ k, v.ownBlock = some k → k ≠ ig) (hll : ∀ k, (findN L (items.take k)).length ≤ 1048576) :
    Calls Try.prog 100 #[.pointer (some ⟨b, 0, none⟩), .slice ia items.length ic] w fun e w' => ∃ v', e = .returned (.tuple #[]) ∧ WL b base v' (findN L items) w' ∧ Below base w w' := by
  have HB0 : Hid (WL b base v L w) := hw
  have HI0 : Hid (Ints w ia ig items) := hi
  have HNE0 : Hid (0 < items.length → ig ≠ b ∧ ∀ k, v.ownBlock = some k → k ≠ ig) := hne
  have HLL : Hid (∀ k, (findN L (items.take k)).length ≤ 1048576) := hll
  clear hw hi hne hll
  go_enter Try.func100, Try.ntmps100
  go_wp2
  go_loopw [8] (fun i wr => ∃ (k : Nat) (v' : Value), k ≤ items.length ∧ i = .int .i64 (k : Int) ∧ WL b base v' (findN L (items.take k)) wr ∧ Ints wr ia ig items ∧ (0 < items.length → ig ≠ b ∧ ∀ k, v'.ownBlock = some k → k ≠ ig) ∧ Below base w wr) (fun i _ => items.length - (intOf i).toNat)
  case atStart => exact ⟨0, v, Nat.zero_le _, rfl, HB0.out, HI0.out, HNE0.out, Below.refl _ _⟩
  case round =>
    clear HB0 HI0 HNE0
    obtain ⟨k, v', hk, rfl, hwl, hi, hne, hb⟩ := hrel
    have HWL : Hid (WL b base v' (findN L (items.take k)) wr) := hwl
    have HI : Hid (Ints wr ia ig items) := hi
    have HNE : Hid (0 < items.length → ig ≠ b ∧ ∀ k, v'.ownBlock = some k → k ≠ ig) := hne
    have HB : Hid (Below base w wr) := hb
    clear hwl hi hne hb
    by_cases hlt : k < items.length
    · have hlti : (k : Int) < (items.length : Int) := by omega
      have hk0 : (0 : Int) ≤ (k : Int) := by omega
      obtain ⟨rfl, c0, _⟩ := HI.out k hlt
      have HTK : Hid (findN L (items.take (k + 1)) = pushN (findN L (items.take k)) items[k]) := findN_take L items k hlt
      have HQL : Hid ((findN L (items.take k)).length ≤ 1048576) := HLL.out k
      have HKN : Hid (k < items.length) := hlt
      generalize items[k] = x at c0 HTK
      generalize findN L (items.take k) = Q at HWL HTK HQL
      have m0 := HWL.out.cell
      have f0 := HWL.out.free
      obtain ⟨aq, gq, cq, hvq, _, hiq⟩ := words_of_row HWL.out.row
      subst hvq
      have HCN : Hid (∀ bb, decide (x ∈ Q) = bb → ∀ w', w' = wr → Calls _ _ _ w' _) := fun bb hbb w' q => containsY_any w' aq Q.length cq Q x bb rfl HQL.out (q ▸ hiq.nums) hbb
      have hxl : items.length ≤ 1048576 := hin
      clear hiq hlt
      by_cases hx : x ∈ Q
      · have HC2 := HCN.out true (decide_eq_true hx)
        have HPN : Hid (pushN Q x = Q) := by show pushN Q x = _; unfold pushN; rw [if_pos hx]
        rw [HPN.out] at HTK
        have HC3 : Hid (∀ w', w' = wr → Calls _ _ _ w' _) := HC2
        clear hx HC2 HCN
        go_wp2_with fail
        refine (HC3.out wr rfl).mono ?_
        rintro e w2 ⟨rfl, rfl⟩
        go_wp2
        go_roundw
        case rel => exact ⟨k + 1, _, by have := HKN.out; omega, by go_num, by rw [HTK.out]; exact HWL.out, HI.out, HNE.out, HB.out⟩
        case measure => have := HKN.out; simp [intOf]; omega
      · have HC2 := HCN.out false (decide_eq_false hx)
        have HPN : Hid (pushN Q x = Q ++ [x]) := by show pushN Q x = _; unfold pushN; rw [if_neg hx]
        rw [HPN.out] at HTK
        have HC3 : Hid (∀ w', w' = wr → Calls _ _ _ w' _) := HC2
        clear hx HC2 HCN
        go_wp2_with fail
        refine (HC3.out wr rfl).mono ?_
        rintro e w2 ⟨rfl, rfl⟩
        go_wp2_with (refine wpList_pushY _ (by rfl) _ _ (by rfl) base (.slice aq Q.length cq) Q.length (Q.map (Value.int .i64)) x HWL.out.row (by rfl) (by rfl) HQL.out HWL.out.siz ?_; intro g2 c2 w6 hrow6 hg6 hat6 hlt6; obtain ⟨d0, d1, hwl6, hb6, hgb6⟩ := HWL.out.pushed hrow6 hg6 hat6; have HW6 : Hid (WL _ _ _ _ _) := hwl6; have HB6 : Hid (Below base w _) := HB.out.trans hb6; have HG6 : Hid (wr.grownBy w6 _) := hg6; have HA6 : Hid (_ ∨ _) := hat6; clear hrow6 hg6 hat6 hlt6 hwl6 hb6)
        go_roundw
        case rel =>
          refine ⟨k + 1, _, by have := HKN.out; omega, by go_num, by rw [HTK.out]; exact HW6.out, ?_, fun h0 => ⟨(HNE.out h0).1, fun r q => ?_⟩, HB6.out⟩
          · have hne := HNE.out (by have := HKN.out; omega)
            have h1 : Ints w6 (some ⟨ig, 0, none⟩) ig items := by
              cases hvo : Value.ownBlock (.slice aq Q.length cq) with
              | none =>
                rw [hvo] at HG6
                exact HI.out.below ⟨HG6.out.os, HG6.out.tape, HG6.out.output, HG6.out.size, fun k hk => HG6.out.block k hk (by simp)⟩
              | some r =>
                rw [hvo] at HG6
                exact HI.out.grown HG6.out (fun q => hne.2 r hvo q.symm)
            exact h1.grown (grown_set _ _ _ _) hne.1
          · have q3 : some g2 = some r := q
            injection q3 with q3
            subst q3
            rcases HA6.out with h | h
            · exact (HNE.out h0).2 g2 h
            · have := HI.out.lt h0
              omega
        case measure => have := HKN.out; simp [intOf]; omega
    · obtain rfl : k = items.length := by omega
      rw [List.take_length] at HWL
      go_wp2
      go_end0
      exact ⟨v', rfl, HWL.out, HB.out⟩
end Go.Proofs.Ytngpmohmnpbcnaa.cl
