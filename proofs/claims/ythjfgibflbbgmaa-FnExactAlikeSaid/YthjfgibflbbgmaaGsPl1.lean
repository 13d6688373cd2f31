/-
  A plain graph, by the program: what nodes are called, and the nodes put together.
-/
import Derived.Test.YthjfgibflbbgmaaGsObj
namespace Go.Proofs.Ythjfgibflbbgmaa.gs
open Go.RowKit
open kinds ints obj ref gr cl

structure PB (B pb : Nat) (rv v : Value) (L : List En) (w : World) : Prop where
  c0 : w.cell? ⟨pb, 0, none⟩ = some rv
  c1 : w.cell? ⟨pb, 1, none⟩ = some v
  fz : ∀ j, w.frozen? ⟨pb, j, none⟩ = false
  row : RowE w B v L
  lt : pb < B
  siz : B ≤ w.heap.size
theorem PB.quiet {B pb : Nat} {rv v : Value} {L : List En} {w w' : World} (h : PB B pb rv v L w) (hb : Below w.heap.size w w') : PB B pb rv v L w' := by
  have hl : pb < w.heap.size := World.block_lt_of_cell? w _ h.c0
  exact ⟨by rw [hb.cell (p := ⟨pb, 0, none⟩) hl]; exact h.c0, by rw [hb.cell (p := ⟨pb, 1, none⟩) hl]; exact h.c1, fun j => by rw [hb.frozen (p := ⟨pb, j, none⟩) hl]; exact h.fz j, h.row.quiet hb, h.lt, Nat.le_trans h.siz hb.size⟩
theorem PB.pushed {B pb g c : Nat} {rv v : Value} {L : List En} {wr wB w6 : World} {e : En} (h : PB B pb rv v L wr) (hb : Below wr.heap.size wr wB) (he : Ints wB (some ⟨e.1, 0, none⟩) e.1 e.2.2.2) (he0 : wr.heap.size ≤ e.1) (he1 : e.1 < wB.heap.size)
    (hrow : w6.ownsRow B 53 2 (.slice (some ⟨g, 0, none⟩) (L.length + 1) c) (L.length + 1) (cellsE L ++ [.int .i64 e.2.2.1, .slice (some ⟨e.1, 0, none⟩) e.2.2.2.length e.2.1])) (hg : wB.grownBy w6 v.ownBlock) (hat : v.ownBlock = some g ∨ wB.heap.size ≤ g) :
    (w6.cell? ⟨pb, 1, none⟩ = some v ∧ w6.frozen? ⟨pb, 1, none⟩ = false) ∧ PB B pb rv (.slice (some ⟨g, 0, none⟩) (L.length + 1) c) (L ++ [e]) (w6.setCell ⟨pb, 1, none⟩ (.slice (some ⟨g, 0, none⟩) (L.length + 1) c)) ∧ Below pb wr (w6.setCell ⟨pb, 1, none⟩ (.slice (some ⟨g, 0, none⟩) (L.length + 1) c)) := by
  have h2 := h.quiet hb
  have hlt := h.lt
  have hsz := h.siz
  have hs2 := hb.size
  have hpl : pb < wB.heap.size := by omega
  have hvB : ∀ k, v.ownBlock = some k → B ≤ k ∧ k < wr.heap.size := fun k q => h.row.row.lt k q
  have hk : w6.heap[pb]? = wB.heap[pb]? := hg.block pb hpl (fun q => by have := (hvB pb q.symm).1; omega)
  have k1 : w6.cell? ⟨pb, 1, none⟩ = some v := by rw [World.cell?_of_block (a := ⟨pb, 1, none⟩) hk]; exact h2.c1
  have hr6 := h2.row.pushed he (by omega) he1 (fun x hx => by have := (h.row.vals x hx).2.2; omega) (fun q => by have := (hvB e.1 q).2; omega) hrow hg hat
  refine ⟨⟨k1, by rw [World.frozen?_of_block (a := ⟨pb, 1, none⟩) hk]; exact h2.fz 1⟩, ⟨?_, World.cell?_setCell_same _ _ _ k1, fun j => ?_, hr6.kept (grown_set _ _ _ _) (fun r q => ?_), h.lt, ?_⟩, ?_⟩
  · rw [World.cell?_setCell_other _ _ _ _ (off_ne (by decide)), World.cell?_of_block (a := ⟨pb, 0, none⟩) hk]; exact h2.c0
  · rw [World.frozen?_setCell, World.frozen?_of_block (a := ⟨pb, j, none⟩) hk]; exact h2.fz j
  · have q2 : pb = r := Option.some.inj q
    subst q2
    exact ⟨fun z => by have := (hr6.row.lt pb z).1; omega, fun x hx => by have := (hr6.vals x hx).2.1; omega⟩
  · have := hg.size
    simp; omega
  · have hbB : Below pb wB w6 := ⟨hg.os, hg.tape, hg.output, hg.size, fun k hk => hg.block k (by omega) (fun q => by have := (hvB k q.symm).1; omega)⟩
    exact ((hb.mono (by omega)).trans hbB).setCell (p := ⟨pb, 1, none⟩) (Nat.le_refl _) _
theorem RowE.mono {w : World} {B B' : Nat} {v : Value} {L : List En} (h : RowE w B v L) (hB : B' ≤ B) : RowE w B' v L :=
  ⟨obj.row_mono h.row hB, fun e he => ⟨(h.vals e he).1, Nat.le_trans hB (h.vals e he).2.1, (h.vals e he).2.2⟩, h.ne, h.up⟩
/-- A list's block may be told not to lie beyond. -/
theorem ints_near {w : World} {a : Option Addr} {g B : Nat} {xs : List Int} (h : Ints w a g xs) (hg : B ≤ g) (hB : B ≤ w.heap.size) : ∃ g', Ints w a g' xs ∧ B ≤ g' ∧ g' ≤ w.heap.size := by
  by_cases h0 : 0 < xs.length
  · exact ⟨g, h, hg, Nat.le_of_lt (h.lt h0)⟩
  · exact ⟨B, fun i hi => by omega, Nat.le_refl _, hB⟩
set_option maxHeartbeats 2000000 in
set_option maxRecDepth 20000 in
theorem numbers_any (w : World) (a : Option Addr) (n c N : Nat) (bs : List Nat) (F L : List Int) (hx : L.length = n) (hn : n ≤ 1048576) (hF : ∀ p ∈ F, GoodG N p) (hin : allIn N L = true) (hst : ∀ k (hk : k < L.length), ∃ g, a = some ⟨g, 0, none⟩ ∧ w.cell? ⟨g, k, none⟩ = some (ptrOf bs L[k])) (hnum : ∀ j, j < N → w.cell? ⟨bs.getD j 0, 3, none⟩ = some (.int .i64 (numQ F (j : Int)))) :
    Calls Try.prog 48 #[.slice a n c] w fun e w' => LOut (L.map (newR F)) w e w' := by
  have HX : Hid (L.length = n) := hx
  have HST : Hid (∀ w', Below w.heap.size w w' → ∀ k (hk : k < L.length), ∃ g, a = some ⟨g, 0, none⟩ ∧ w'.cell? ⟨g, k, none⟩ = some (ptrOf bs L[k])) := fun w' hb k hk => by
    obtain ⟨g, e, hc⟩ := hst k hk
    exact ⟨g, e, by rw [hb.cell (p := ⟨g, k, none⟩) (World.block_lt_of_cell? w _ hc)]; exact hc⟩
  have HNU : Hid (∀ w', Below w.heap.size w w' → ∀ j, j < N → w'.cell? ⟨bs.getD j 0, 3, none⟩ = some (.int .i64 (numQ F (j : Int)))) := fun w' hb j hj => by
    have hc := hnum j hj
    rw [hb.cell (p := ⟨bs.getD j 0, 3, none⟩) (World.block_lt_of_cell? w _ hc)]; exact hc
  have HIN : Hid (∀ k (hk : k < L.length), 0 ≤ L[k] ∧ L[k] ≤ (N : Int)) := fun k hk => allIn_at hin hk
  have HZ : Hid (∀ r, ¬ 0 < r → newR F r = 0) := fun r h => newR_zero hF h
  clear hx hst hnum hin hF
  go_enter Try.func48, Try.ntmps48
  go_wp2
  go_loopw [3, 9] (fun v i wr => ∃ k : Nat, k ≤ n ∧ i = .int .i64 (k : Int) ∧ wr.ownsRow w.heap.size 2 1 v ((L.take k).map (newR F)).length (((L.take k).map (newR F)).map (Value.int .i64)) ∧ Below w.heap.size w wr) (fun _ i _ => n - (intOf i).toNat)
  case atStart => exact ⟨0, Nat.zero_le _, rfl, World.ownsRow_nil _ _ _ _, Below.refl _ _⟩
  case round =>
    obtain ⟨k, hk, rfl, hown, hb⟩ := hrel
    have HOW : Hid (wr.ownsRow w.heap.size 2 1 u3 ((L.take k).map (newR F)).length (((L.take k).map (newR F)).map (Value.int .i64))) := hown
    have HB : Hid (Below w.heap.size w wr) := hb
    clear hown hb
    by_cases hlt : k < n
    · have hlti : (k : Int) < (n : Int) := by omega
      have hk0 : (0 : Int) ≤ (k : Int) := by omega
      have hkl : k < L.length := by have := HX.out; omega
      obtain ⟨g5, rfl, e5⟩ := HST.out wr HB.out k hkl
      obtain ⟨hx0, hxn⟩ := HIN.out k hkl
      have HTK : Hid ((L.take (k + 1)).map (newR F) = (L.take k).map (newR F) ++ [newR F L[k]]) := by
        show (L.take (k + 1)).map (newR F) = _
        rw [List.take_succ_eq_append_getElem hkl, List.map_append]; rfl
      have HLK : Hid (((L.take k).map (newR F)).length ≤ 1048576) := by show _ ≤ _; rw [List.length_map, List.length_take]; omega
      generalize (L.take k).map (newR F) = M at HOW HTK HLK
      generalize L[k] = x at e5 hx0 hxn HTK
      by_cases hx : 0 < x
      · obtain ⟨m, rfl⟩ : ∃ m : Nat, x = (m : Int) + 1 := ⟨(x - 1).toNat, by omega⟩
        have hmn : m < N := by omega
        rw [ptrOf_one] at e5
        have e6 := HNU.out wr HB.out m hmn
        rw [newR_numQ, show (m : Int) + 1 - 1 = (m : Int) by omega] at HTK
        generalize numQ F (m : Int) = nq at e6 HTK
        generalize bs.getD m 0 = nb at e5 e6
        have e7 : wr.cell? ⟨g5, k, none⟩ = some (.pointer (some ⟨nb, 0, none⟩)) := e5
        clear e5 hx hx0 hxn hmn
        go_wp2_with (refine wpList_push wr (by rfl) _ _ (by rfl) w.heap.size u3 M nq HOW.out (by rfl) (by rfl) HLK.out HB.out.size ?_; intro g2 c2 w6 hown6 hb6 hB6; have HO6 : Hid (_) := hown6; have HB6 : Hid (Below w.heap.size w w6) := HB.out.trans hb6; clear hown6 hb6 hB6)
        go_roundw
        case rel => exact ⟨k + 1, by omega, by go_num, by rw [HTK.out]; exact HO6.out, HB6.out⟩
        case measure => simp [intOf]; omega
      · rw [ptrOf_zero bs hx] at e5
        rw [HZ.out x (by omega)] at HTK
        clear hx hx0 hxn
        go_wp2_with (refine wpList_push wr (by rfl) _ _ (by rfl) w.heap.size u3 M 0 HOW.out (by rfl) (by rfl) HLK.out HB.out.size ?_; intro g2 c2 w6 hown6 hb6 hB6; have HO6 : Hid (_) := hown6; have HB6 : Hid (Below w.heap.size w w6) := HB.out.trans hb6; clear hown6 hb6 hB6)
        go_roundw
        case rel => exact ⟨k + 1, by omega, by go_num, by rw [HTK.out]; exact HO6.out, HB6.out⟩
        case measure => simp [intOf]; omega
    · obtain rfl : k = n := by omega
      have hown := HOW.out
      rw [List.take_of_length_le (by have := HX.out; omega)] at hown
      obtain ⟨ar, gr, cr, rfl, hgr, hir⟩ := ints_of_row hown
      have HIR : Hid (Ints wr ar gr (L.map (newR F))) := hir
      have HGR : Hid (w.heap.size ≤ gr) := hgr
      clear hir hgr hown HOW
      go_wp2
      go_ret
      exact ⟨ar, gr, cr, rfl, HGR.out, HIR.out, HB.out⟩
end Go.Proofs.Ythjfgibflbbgmaa.gs
