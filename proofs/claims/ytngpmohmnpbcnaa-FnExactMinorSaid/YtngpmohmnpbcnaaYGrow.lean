/-
  slices.Grow of nothing, and two slices of whole numbers put together.
-/
import Derived.Test.YtngpmohmnpbcnaaYSpec4
import Derived.Test.YtngpmohmnpbcnaaClone
import Derived.Lib.AppendZeros
import Derived.Deep.AppendSrc
namespace Go.Proofs.Ytngpmohmnpbcnaa.nu
open Go.RowKit
open kinds ints ref obj

theorem grow_row (w : World) (n : Nat) (hn : n ≤ 1048576) : (w.drew.alloc (.cells (Builtin.zeroCells #[.int .i64 0] n ++ Builtin.zeroCells #[.int .i64 0] (grownCap w n 0 2 - n)) 2)).ownsRow w.heap.size 2 1 (.slice (some ⟨w.heap.size, 0, none⟩) 0 (grownCap w n 0 2)) 0 [] ∧
    Below w.heap.size w (w.drew.alloc (.cells (Builtin.zeroCells #[.int .i64 0] n ++ Builtin.zeroCells #[.int .i64 0] (grownCap w n 0 2 - n)) 2)) := by
  refine ⟨⟨rfl, .inr ⟨w.heap.size, _, _, rfl, Nat.le_refl _, heap_alloc_last w.drew _, Nat.zero_le _, grownCap_le_maxLen w n 0 _ (by unfold maxLen; omega), ?_, rfl⟩⟩, (Below.refl _ _).drew.alloc (Nat.le_refl _) _⟩
  have := grownCap_ge w n 0 2
  rw [Array.size_append, size_zeroCells, size_zeroCells]
  show n * 1 + (_ - n) * 1 = _ * 1
  omega
theorem slice_nil (W : World) : (Instr.slice 23 (.slice none 0 0) none (some (.int .i64 0)) none).run Try.prog W = .ok (.slice none 0 0) W := by kernel_rfl
theorem slice_zero (W : World) (g n cap : Nat) : (Instr.slice 23 (.slice (some ⟨g, 0, none⟩) n cap) none (some (.int .i64 0)) none).run Try.prog W = .ok (.slice (some ⟨g, 0, none⟩) 0 cap) W := by
  have ht' : Try.prog.underlying 23 = some (.slice (Try.prog.elem 23)) := by simp [Program.elem, Try.underlying23]
  have he : Try.prog.elem 23 = 2 := by simp [Program.elem, Try.underlying23]
  rw [run_slice_h W 23 _ _ _ ht' .i64 _ (by omega) (by omega), he, oneInt]
  simp [Result.andThen, sliced]
  intro _; rfl
set_option maxHeartbeats 1000000 in
theorem grow_nil (w : World) (n : Nat) (h0 : 0 < n) (hn : n ≤ 1048576) :
    Calls Try.prog 103 #[.slice none 0 0, .int .i64 (n : Int)] w fun e w' => ∃ g cap, e = .returned (.slice (some ⟨g, 0, none⟩) 0 cap) ∧ w'.ownsRow w.heap.size 2 1 (.slice (some ⟨g, 0, none⟩) 0 cap) 0 [] ∧ Below w.heap.size w w' := by
  obtain ⟨i0, hi, hzz⟩ := Option.map_eq_some_iff.1 infoInt64
  simp only [Prod.mk.injEq] at hzz
  obtain ⟨hz0, hz1, hz2⟩ := hzz
  have happ := fun ty => Go.Lib.run_append_nil_zeros (P := Try.prog) w 23 3 ty 2 i0 (.int .i64 0) .i64 .i64 Try.underlying23 Try.underlying3 hi hz0 n h0 (by omega) (by omega) (by rw [hz2]; omega)
  have HGR : Hid (_ ∧ _) := grow_row w n hn
  have hzc : (Value.int IntKind.i64 0).cells = #[.int .i64 0] := rfl
  rw [hzc] at happ
  generalize w.drew.alloc (.cells (Builtin.zeroCells #[.int .i64 0] n ++ Builtin.zeroCells #[.int .i64 0] (grownCap w n 0 2 - n)) 2) = X at happ HGR
  generalize grownCap w n 0 2 = cp at happ HGR
  have hs1 := slice_nil w
  have hs2 := slice_zero X w.heap.size n cp
  have hni : (0 : Int) < (n : Int) := by omega
  have hnn : ¬ (n : Int) < 0 := by omega
  clear hi hz0 hz1 hz2 hzc
  go_enter Try.func103, Try.ntmps103
  go_wp2_with (at_builtin; refine Go.Lib.wpList_append_run _ rfl _ _ _ _ rfl _ _ rfl rfl _ _ (happ _) ?_)
  go_ret
  exact ⟨_, cp, rfl, HGR.out.1, HGR.out.2⟩
theorem append_none (ty : TypeId) (w : World) (g n cap : Nat) (a : Option Addr) (c : Nat) (h : n ≤ cap) : (Builtin.append_ #[23, 23] ty #[.slice (some ⟨g, 0, none⟩) n cap, .slice a 0 c]).run Try.prog w = .ok (.slice (some ⟨g, 0, none⟩) n cap) w := by
  obtain ⟨i0, hi, hzz⟩ := Option.map_eq_some_iff.1 infoInt64
  cases a with
  | none =>
    have hs := Src.ofNil (P := Try.prog) (w := w) (size := i0.size) (tx := 23) (e' := 2) Try.underlying23 c
    have hr := run_append_room_src (P := Try.prog) w 23 23 ty 2 i0 Try.underlying23 hi g 0 n cap _ 0 [] hs h (fun j hj => by cases hj) (fun j hj => by cases hj)
    simpa [World.setCells] using hr
  | some ad =>
    have hs := Src.ofSlice (P := Try.prog) (w := w) (size := i0.size) (tx := 23) (e' := 2) Try.underlying23 ad 0 c [] (by simp) (fun j u hj => by simp at hj) (fun u hu => by cases hu)
    have hr := run_append_room_src (P := Try.prog) w 23 23 ty 2 i0 Try.underlying23 hi g 0 n cap _ 0 [] hs h (fun j hj => by cases hj) (fun j hj => by cases hj)
    simpa [World.setCells] using hr
theorem own_room {w : World} {B : Nat} {g n cap : Nat} {xs : List Value} (h : w.ownsRow B 2 1 (.slice (some ⟨g, 0, none⟩) n cap) n xs) : n ≤ cap := by
  rcases h.2 with ⟨q, _⟩ | ⟨g', cap', cur, e, _, _, hc, _⟩
  · cases q
  · simp only [Value.slice.injEq] at e
    rw [e.2.2]; exact hc
/-- Whole numbers put behind a slice of one's own. -/
theorem wpList_pushN {ops : Array Oper} {rest : List Oper} {o : Oper} {a : Act} {Q : Exit → Act → World → Prop} (X : World) (hgd : o.guard = none) (s x : Operand)
    (ho : o.op = .call { callee := .builtin .append, args := #[s, x], argTypes := #[23, 23] }) (base g0 n0 cap0 : Nat) (xs : List Int) (a1 : Option Addr) (n1 c1 : Nat) (ys : List Int) (hy : ys.length = n1)
    (hown : X.ownsRow base 2 1 (.slice (some ⟨g0, 0, none⟩) n0 cap0) n0 (xs.map (Value.int .i64))) (hs : a.eval s = .slice (some ⟨g0, 0, none⟩) n0 cap0) (hx : a.eval x = .slice a1 n1 c1) (hnu : Nums X a1 ys) (hn : n0 + n1 ≤ 2097152) (hbase : base ≤ X.heap.size) (hg0 : base ≤ g0)
    (h : ∀ g cap w', w'.ownsRow base 2 1 (.slice (some ⟨g, 0, none⟩) (n0 + n1) cap) (n0 + n1) ((xs ++ ys).map (Value.int .i64)) → base ≤ g → Below base X w' → wpList Try.prog ops Q rest (a.put o.dst (.slice (some ⟨g, 0, none⟩) (n0 + n1) cap)) w') :
    wpList Try.prog ops Q (o :: rest) a X := by
  by_cases h0 : n1 = 0
  · subst h0
    have hys : ys = [] := List.length_eq_zero_iff.1 hy
    subst hys
    refine Go.Lib.wpList_append_run X hgd s x _ _ ho _ _ hs hx _ _ (append_none _ X g0 n0 cap0 a1 c1 (own_room hown)) ?_
    have h1 := h g0 cap0 X (by simpa using hown) hg0 (Below.refl _ _)
    simpa using h1
  · obtain ⟨i0, hi, hzz⟩ := Option.map_eq_some_iff.1 infoInt64
    simp only [Prod.mk.injEq] at hzz
    obtain ⟨hz0, hz1, hz2⟩ := hzz
    obtain ⟨b, off, rfl, hx9⟩ := hnu 0 (by omega)
    clear hx9
    refine wpList_append_lies X hgd s x 23 ho base 2 i0 (.int .i64 0) 1 8 Try.underlying23 hi hz0 hz1 hz2 rfl (by decide) _ n0 _ hs hown ⟨b, off, none⟩ n1 c1 (ys.map (Value.int .i64)) hx (by rw [List.length_map, hy]; omega) ?_ ?_ (by omega) (by unfold maxLen; omega) (by omega) hbase _ rfl ?_
    · intro j u hj
      rw [List.getElem?_map] at hj
      obtain ⟨y, hy', rfl⟩ := Option.map_eq_some_iff.1 hj
      obtain ⟨hj', rfl⟩ := List.getElem?_eq_some_iff.1 hy'
      obtain ⟨b', off', e, hc⟩ := hnu j hj'
      simp only [Option.some.injEq, Addr.mk.injEq, and_true] at e
      obtain ⟨rfl, rfl⟩ := e
      have hadd : (⟨b, off, none⟩ : Addr).add j = ⟨b, off + j, none⟩ := by unfold Addr.add; split <;> simp_all
      rw [hadd]
      exact hc
    · intro u hu
      obtain ⟨y, _, rfl⟩ := List.mem_map.1 hu
      rfl
    · intro g cap w' hown' hgrow _ _
      refine h g cap w' (by rw [List.map_append]; exact hown') (hown'.lt g rfl).1 (grown_own hgrow (fun k hk => ?_) hbase)
      have : k = g0 := by simpa [Value.ownBlock] using hk.symm
      omega
set_option maxHeartbeats 2000000 in
set_option maxRecDepth 20000 in
theorem concat_two (w : World) (cb : Nat) (a0 a1 : Option Addr) (n0 n1 k0 k1 : Nat) (xs ys : List Int) (hx : xs.length = n0) (hy : ys.length = n1) (hpos : 0 < n0 + n1) (hn0 : n0 ≤ 524288) (hn1 : n1 ≤ 524288) (hc0 : w.cell? ⟨cb, 0, none⟩ = some (.slice a0 n0 k0)) (hc1 : w.cell? ⟨cb, 1, none⟩ = some (.slice a1 n1 k1)) (h0 : Nums w a0 xs) (h1 : Nums w a1 ys) :
    Calls Try.prog 82 #[.slice (some ⟨cb, 0, none⟩) 2 2] w fun e w' => AOut (fun s => s) (xs ++ ys) w e w' := by
  have HN : Hid (∀ w', Below w.heap.size w w' → w'.cell? ⟨cb, 0, none⟩ = some (.slice a0 n0 k0) ∧ w'.cell? ⟨cb, 1, none⟩ = some (.slice a1 n1 k1) ∧ Nums w' a0 xs ∧ Nums w' a1 ys) := fun w' h =>
    ⟨by rw [h.cell (p := ⟨cb, 0, none⟩) (World.block_lt_of_cell? _ _ hc0)]; exact hc0, by rw [h.cell (p := ⟨cb, 1, none⟩) (World.block_lt_of_cell? _ _ hc1)]; exact hc1, h0.below h, h1.below h⟩
  have HX : Hid (xs.length = n0) := hx
  have HY : Hid (ys.length = n1) := hy
  have HGR : Hid (Calls _ _ _ w _) := grow_nil w (n0 + n1) hpos (by omega)
  have hcs : ((n0 + n1 : Nat) : Int) = (n0 : Int) + (n1 : Int) := by omega
  rw [hcs] at HGR
  clear hx hy h0 h1 hcs
  go_enter Try.func82, Try.ntmps82
  go_wp2
  go_loopw [3, 11] (fun z i wr => ∃ k : Nat, k ≤ 2 ∧ i = .int .i64 (k : Int) ∧ z = .int .i64 (if k = 0 then 0 else if k = 1 then (n0 : Int) else (n0 : Int) + (n1 : Int)) ∧ w = wr) (fun _ i _ => 2 - (intOf i).toNat)
  case atStart => exact ⟨0, by omega, rfl, rfl, rfl⟩
  case round =>
    obtain ⟨k, hk, rfl, rfl, rfl⟩ := hrel
    rcases (show k = 0 ∨ k = 1 ∨ k = 2 by omega) with rfl | rfl | rfl
    · go_wp2
      go_roundw
      case rel => exact ⟨1, by omega, rfl, by simp, trivial⟩
      case measure => simp [intOf]
    · have hnn : ¬ (n0 : Int) + (n1 : Int) < 0 := by omega
      go_wp2
      go_roundw
      case rel => exact ⟨2, by omega, rfl, by simp, trivial⟩
      case measure => simp [intOf]
    · go_wp2_with fail
      refine HGR.out.mono ?_
      rintro e w2 ⟨g2, c2, rfl, how2, hb2⟩
      have HO2 : Hid (w2.ownsRow w.heap.size 2 1 (.slice (some ⟨g2, 0, none⟩) 0 c2) 0 []) := how2
      have HB2 : Hid (Below w.heap.size w w2) := hb2
      clear how2 hb2
      go_wp2
      clear hc0 hc1
      go_loopw [6, 27] (fun v i wr => ∃ (k g cap : Nat) (zs : List Int), k ≤ 2 ∧ i = .int .i64 (k : Int) ∧ zs = (if k = 0 then [] else if k = 1 then xs else xs ++ ys) ∧ v = .slice (some ⟨g, 0, none⟩) zs.length cap ∧ w.heap.size ≤ g ∧ wr.ownsRow w.heap.size 2 1 v zs.length (zs.map (Value.int .i64)) ∧ Below w.heap.size w wr) (fun _ i _ => 2 - (intOf i).toNat)
      case atStart => exact ⟨0, g2, c2, [], by omega, rfl, rfl, rfl, (HO2.out.lt g2 rfl).1, HO2.out, HB2.out⟩
      case round =>
        obtain ⟨k, g, cap, zs, hk, rfl, hzs, rfl, hg, how, hb⟩ := hrel
        have HO : Hid (wr.ownsRow w.heap.size 2 1 (.slice (some ⟨g, 0, none⟩) zs.length cap) zs.length (zs.map (Value.int .i64))) := how
        have HB : Hid (Below w.heap.size w wr) := hb
        have HG : Hid (w.heap.size ≤ g) := hg
        obtain ⟨hc0, hc1, hn0', hn1'⟩ := HN.out wr hb
        have HN0 : Hid (Nums wr a0 xs) := hn0'
        have HN1 : Hid (Nums wr a1 ys) := hn1'
        clear how hb hg hn0' hn1'
        rcases (show k = 0 ∨ k = 1 ∨ k = 2 by omega) with rfl | rfl | rfl
        · rw [if_pos rfl] at hzs
          subst hzs
          have HO1 : Hid (wr.ownsRow w.heap.size 2 1 (.slice (some ⟨g, 0, none⟩) 0 cap) 0 (([] : List Int).map (Value.int .i64))) := HO.out
          go_wp2_with (refine wpList_pushN wr (by rfl) _ _ (by rfl) w.heap.size g 0 cap [] a0 n0 k0 xs HX.out HO1.out (by rfl) (by rfl) HN0.out (by omega) HB.out.size HG.out ?_; intro g6 c6 w6 hown6 hg6 hb6; have HO6 : Hid (w6.ownsRow _ _ _ _ _ _) := hown6; have HG6 : Hid (w.heap.size ≤ g6) := hg6; have HB6 : Hid (Below w.heap.size w w6) := HB.out.trans hb6; clear hown6 hg6 hb6)
          go_roundw
          case rel => exact ⟨1, g6, c6, xs, by omega, rfl, rfl, by rw [HX.out], HG6.out, by have h1 := HO6.out; rw [List.nil_append, Nat.zero_add] at h1; rw [HX.out]; exact h1, HB6.out⟩
          case measure => simp [intOf]
        · rw [if_neg (by decide), if_pos rfl] at hzs
          subst hzs
          have HO1 : Hid (wr.ownsRow w.heap.size 2 1 (.slice (some ⟨g, 0, none⟩) n0 cap) n0 (zs.map (Value.int .i64))) := by
            have h1 := HO.out
            rw [HX.out] at h1
            exact h1
          rw [HX.out]
          go_wp2_with (refine wpList_pushN wr (by rfl) _ _ (by rfl) w.heap.size g n0 cap zs a1 n1 k1 ys HY.out HO1.out (by rfl) (by rfl) HN1.out (by omega) HB.out.size HG.out ?_; intro g6 c6 w6 hown6 hg6 hb6; have HO6 : Hid (w6.ownsRow _ _ _ _ _ _) := hown6; have HG6 : Hid (w.heap.size ≤ g6) := hg6; have HB6 : Hid (Below w.heap.size w w6) := HB.out.trans hb6; clear hown6 hg6 hb6)
          go_roundw
          case rel => exact ⟨2, g6, c6, zs ++ ys, by omega, rfl, rfl, by rw [List.length_append, HX.out, HY.out], HG6.out, by have h1 := HO6.out; rw [List.length_append, HX.out, HY.out]; exact h1, HB6.out⟩
          case measure => simp [intOf]
        · rw [if_neg (by decide), if_neg (by decide)] at hzs
          subst hzs
          obtain ⟨a9, g9, c9, e9, hg9, hi9⟩ := ints_of_row HO.out
          have HI9 : Hid (Ints wr a9 g9 (xs ++ ys)) := hi9
          have HE9 : Hid (Value.slice (some ⟨g, 0, none⟩) (xs ++ ys).length cap = .slice a9 (xs ++ ys).length c9) := e9
          have HG9 : Hid (w.heap.size ≤ g9) := hg9
          clear hi9 hg9 e9
          go_wp2
          go_ret
          exact ⟨a9, g9, c9, by rw [← HE9.out]; rfl, HG9.out, HI9.out, HB.out⟩
end Go.Proofs.Ytngpmohmnpbcnaa.nu
