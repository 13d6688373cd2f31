/-
  Nodes that point to each other: what they are in memory, and rows of pointers to them.
-/
import Derived.Test.YthjfgibflbbgmaaGsPush
import Derived.Laws.MakeOwn
import Derived.Deep.RegionHeld3
namespace Go.Proofs.Ythjfgibflbbgmaa.gs
open Go.RowKit
open kinds ints obj ref gr cl

abbrev ptr (b : Nat) : Value := .pointer (some ⟨b, 0, none⟩)
/-- What a reference is as a pointer: nothing, or the node at its place. -/
def ptrOf (bs : List Nat) (r : Int) : Value := if 0 < r then ptr (bs.getD (r - 1).toNat 0) else .pointer none
/-- A row of pointers that stays: in a block from B on and below F that is none of sh. -/
def Still (w : World) (bs sh : List Nat) (B F : Nat) (a : Option Addr) (L : List Int) : Prop := ∀ k (hk : k < L.length), ∃ g, a = some ⟨g, 0, none⟩ ∧ B ≤ g ∧ g < F ∧ g ∉ sh ∧ w.cell? ⟨g, k, none⟩ = some (ptrOf bs L[k])
/-- What is kept: all blocks below F but those of sh. -/
def Kp (sh : List Nat) (F : Nat) (w w' : World) : Prop := w.heap.size ≤ w'.heap.size ∧ ∀ k, k < F → k ∉ sh → w'.heap[k]? = w.heap[k]?
theorem Kp.refl (sh : List Nat) (F : Nat) (w : World) : Kp sh F w w := ⟨Nat.le_refl _, fun _ _ _ => rfl⟩
theorem Kp.trans {sh : List Nat} {F : Nat} {a b c : World} (h : Kp sh F a b) (k : Kp sh F b c) : Kp sh F a c := ⟨Nat.le_trans h.1 k.1, fun i h1 h2 => (k.2 i h1 h2).trans (h.2 i h1 h2)⟩
theorem Kp.below {sh : List Nat} {F : Nat} {w w' : World} (hb : Below F w w') : Kp sh F w w' := ⟨hb.size, fun k hk _ => hb.block k hk⟩
theorem Kp.set {sh : List Nat} {F : Nat} {w : World} (g j : Nat) (x : Value) (h : g ∈ sh) : Kp sh F w (w.setCell ⟨g, j, none⟩ x) := ⟨by simp, fun k _ hk => Below.heap_setCell w ⟨g, j, none⟩ x k (fun e => hk (by rw [e]; exact h))⟩
theorem Kp.mono {sh sh' : List Nat} {F F' : Nat} {w w' : World} (h : Kp sh F w w') (hs : ∀ k, k ∈ sh → k ∈ sh') (hF : F' ≤ F) : Kp sh' F' w w' := ⟨h.1, fun k h1 h2 => h.2 k (Nat.lt_of_lt_of_le h1 hF) (fun q => h2 (hs k q))⟩
theorem Still.kept {w w' : World} {bs sh : List Nat} {B F : Nat} {a : Option Addr} {L : List Int} (h : Still w bs sh B F a L) (hk : Kp sh F w w') : Still w' bs sh B F a L := fun k hkl => by
  obtain ⟨g, e, hB, hF, hn, hc⟩ := h k hkl
  exact ⟨g, e, hB, hF, hn, by rw [World.cell?_of_block (a := ⟨g, k, none⟩) (hk.2 g hF hn)]; exact hc⟩
theorem Still.mono {w : World} {bs sh : List Nat} {B B' F : Nat} {a : Option Addr} {L : List Int} (h : Still w bs sh B F a L) (hB : B' ≤ B) : Still w bs sh B' F a L := fun k hkl => by
  obtain ⟨g, e, h0, h1, h2, h3⟩ := h k hkl
  exact ⟨g, e, Nat.le_trans hB h0, h1, h2, h3⟩
theorem Still.low {w : World} {bs sh : List Nat} {B F : Nat} {a : Option Addr} {L : List Int} (h : Still w bs sh B F a L) {r : Nat} (hr : r < B) (j : Nat) (x : Value) : Still (w.setCell ⟨r, j, none⟩ x) bs sh B F a L := fun k hkl => by
  obtain ⟨g, e, hB, hF, hn, hc⟩ := h k hkl
  exact ⟨g, e, hB, hF, hn, by rw [World.cell?_of_block (a := ⟨g, k, none⟩) (Below.heap_setCell w ⟨r, j, none⟩ x g (fun e => by have e2 : g = r := e; omega))]; exact hc⟩
theorem vals_of_row {w : World} {base e : Nat} {v : Value} {xs : List Value} (h : w.ownsRow base e 1 v xs.length xs) : ∃ (a : Option Addr) (g cap : Nat), v = .slice a xs.length cap ∧ base ≤ g ∧ ∀ i (hi : i < xs.length), a = some ⟨g, 0, none⟩ ∧ w.cell? ⟨g, i, none⟩ = some xs[i] ∧ w.frozen? ⟨g, i, none⟩ = false := by
  rcases h.2 with ⟨rfl, h0⟩ | ⟨g, cap, cur, rfl, hb, hg, hc, hcm, hcs, ht⟩
  · exact ⟨none, base, 0, by rw [h0], Nat.le_refl _, fun i hi => by omega⟩
  · refine ⟨_, g, cap, rfl, hb, fun i hi => ⟨rfl, ?_, ?_⟩⟩
    · have hx : (cur.toList.take (xs.length * 1))[i]? = some xs[i] := by rw [ht]; exact List.getElem?_eq_getElem hi
      rw [List.getElem?_take, if_pos (by omega)] at hx
      rw [cell_of_row w g i cur e (0, 0) hg]
      simpa using hx
    · simp [World.frozen?, hg]
/-- All references there are, in order. -/
def ones (n : Nat) : List Int := (List.range n).map fun (i : Nat) => (i : Int) + 1
theorem ones_len (n : Nat) : (ones n).length = n := by simp [ones]
theorem ones_at (n i : Nat) (h : i < (ones n).length) : (ones n)[i] = (i : Int) + 1 := by simp [ones]
theorem ptrOf_one (bs : List Nat) (i : Nat) : ptrOf bs ((i : Int) + 1) = ptr (bs.getD i 0) := by
  unfold ptrOf
  rw [if_pos (by omega), show ((i : Int) + 1 - 1).toNat = i by omega]
/-- A node in its block: type, values, number; that its cells may be written. -/
structure NodeC (w : World) (b : Nat) (t : Int) (va : Value) (num : Int) : Prop where
  c0 : w.cell? ⟨b, 0, none⟩ = some (.int .i64 t)
  c1 : w.cell? ⟨b, 1, none⟩ = some va
  c3 : w.cell? ⟨b, 3, none⟩ = some (.int .i64 num)
  fz : ∀ j, w.frozen? ⟨b, j, none⟩ = false
theorem NodeC.of {w w' : World} {b : Nat} {t num : Int} {va : Value} (h : NodeC w b t va num) (hk : w'.heap[b]? = w.heap[b]?) : NodeC w' b t va num :=
  ⟨by rw [World.cell?_of_block (a := ⟨b, 0, none⟩) hk]; exact h.c0, by rw [World.cell?_of_block (a := ⟨b, 1, none⟩) hk]; exact h.c1, by rw [World.cell?_of_block (a := ⟨b, 3, none⟩) hk]; exact h.c3, fun j => by rw [World.frozen?_of_block (a := ⟨b, j, none⟩) hk]; exact h.fz j⟩
theorem NodeC.lt {w : World} {b : Nat} {t num : Int} {va : Value} (h : NodeC w b t va num) : b < w.heap.size := World.block_lt_of_cell? w _ h.c0
theorem off_ne {b i j : Nat} (h : i ≠ j) : (⟨b, i, none⟩ : Addr) ≠ ⟨b, j, none⟩ := fun q => h (by simpa using congrArg Addr.off q)
theorem blk_ne {b c i j : Nat} (h : b ≠ c) : (⟨b, i, none⟩ : Addr) ≠ ⟨c, j, none⟩ := fun q => h (by simpa using congrArg Addr.block q)
theorem NodeC.set2 {w : World} {b : Nat} {t num : Int} {va : Value} (h : NodeC w b t va num) (x : Value) : NodeC (w.setCell ⟨b, 2, none⟩ x) b t va num :=
  ⟨by rw [World.cell?_setCell_other _ _ _ _ (off_ne (by decide))]; exact h.c0, by rw [World.cell?_setCell_other _ _ _ _ (off_ne (by decide))]; exact h.c1, by rw [World.cell?_setCell_other _ _ _ _ (off_ne (by decide))]; exact h.c3, fun j => by rw [World.frozen?_setCell]; exact h.fz j⟩
theorem NodeC.set3 {w : World} {b : Nat} {t num : Int} {va : Value} (h : NodeC w b t va num) (m : Int) : NodeC (w.setCell ⟨b, 3, none⟩ (.int .i64 m)) b t va m :=
  ⟨by rw [World.cell?_setCell_other _ _ _ _ (off_ne (by decide))]; exact h.c0, by rw [World.cell?_setCell_other _ _ _ _ (off_ne (by decide))]; exact h.c1, World.cell?_setCell_same _ _ _ h.c3, fun j => by rw [World.frozen?_setCell]; exact h.fz j⟩
theorem infoPtr : (Try.prog.info? 63).map (fun i => (i.zero, i.size, i.bytes)) = some (some (.pointer none), 1, 8) := by kernel_rfl
def madePtrs (w : World) (n : Nat) : World := w.alloc (.cells (madeCells #[.pointer none] (n * 1)) 63)
theorem run_ptrs (n : Nat) (h : n ≤ 1048576) (w : World) : (Instr.makeSlice 58 (.int .i64 (n : Int)) (.int .i64 (n : Int))).run Try.prog w = .ok (.slice (some ⟨w.heap.size, 0, none⟩) n n) (madePtrs w n) := by
  obtain ⟨i, hi, hzz⟩ := Option.map_eq_some_iff.1 infoPtr
  simp only [Prod.mk.injEq] at hzz
  obtain ⟨hz, hs, hb⟩ := hzz
  have hr := run_make (P := Try.prog) w 58 63 i _ Try.underlying58 hi hz .i64 .i64 n n (by omega) (Int.le_refl _) (by rw [hb]; omega) (by omega)
  simp only [Int.toNat_natCast, hs] at hr
  exact hr
theorem madePtrs_below (w : World) (n : Nat) : Below w.heap.size w (madePtrs w n) := (Below.refl _ _).alloc (Nat.le_refl _) _
theorem madePtrs_at (w : World) (n : Nat) : ∀ i, i < n → (madePtrs w n).cell? ⟨w.heap.size, i, none⟩ = some (.pointer none) ∧ (madePtrs w n).frozen? ⟨w.heap.size, i, none⟩ = false := fun i hi => by
  unfold madePtrs
  refine ⟨?_, World.frozen?_alloc_new _ _ _ _⟩
  rw [World.cell?_alloc_new]
  simp [madeCells, hi, Nat.mod_one]
theorem wpList_pushP {ops : Array Oper} {rest : List Oper} {o : Oper} {a : Act} {Q : Exit → Act → World → Prop} (X : World) (hgd : o.guard = none) (s x : Operand)
    (ho : o.op = .call { callee := .builtin .append, args := #[s, x], argTypes := #[58, 58] }) (base : Nat) (v : Value) (n : Nat) (xs : List Value) (b : Nat)
    (hown : X.ownsRow base 63 1 v n xs) (hs : a.eval s = v) (hx : a.eval x = .slice (some ⟨X.heap.size, 0, none⟩) 1 1) (hn : n ≤ 1048576) (hbase : base ≤ X.heap.size)
    (h : ∀ g cap w', w'.ownsRow base 63 1 (.slice (some ⟨g, 0, none⟩) (n + 1) cap) (n + 1) (xs ++ [ptr b]) → X.grownBy w' v.ownBlock → Below base X w' → (v.ownBlock = some g ∨ X.heap.size ≤ g) → wpList Try.prog ops Q rest (a.put o.dst (.slice (some ⟨g, 0, none⟩) (n + 1) cap)) w') :
    wpList Try.prog ops Q (o :: rest) a (X.alloc (.cells #[ptr b] 63)) := by
  obtain ⟨i0, hi, hzz⟩ := Option.map_eq_some_iff.1 infoPtr
  simp only [Prod.mk.injEq] at hzz
  obtain ⟨hz0, hz1, hz2⟩ := hzz
  refine wpList_append_lies _ hgd s x 58 ho base 63 i0 (.pointer none) 1 8 Try.underlying58 hi hz0 hz1 hz2 rfl (by decide) v n _ hs (hown.alloc _) ⟨X.heap.size, 0, none⟩ 1 1 [ptr b] hx rfl ?_ ?_ (by decide) ?_ ?_ ?_ _ rfl ?_
  · intro j u hj
    match j, hj with
    | 0, hj => simp at hj; subst hj; rw [show (⟨X.heap.size, 0, none⟩ : Addr).add 0 = ⟨X.heap.size, 0, none⟩ from rfl, World.cell?_alloc_new]; rfl
  · intro u hu; simp at hu; subst hu; rfl
  · unfold maxLen; omega
  · omega
  · simp; omega
  · intro g cap w' hown' hgrow hat hlt
    have h1 : X.grownBy w' v.ownBlock := grown_trans (grown_below _ ((Below.refl _ _).alloc (Nat.le_refl _) _)) hgrow
    have hb : Below base X w' := grown_own h1 (fun k hk => (hown.lt k hk).1) hbase
    refine h g cap w' hown' h1 hb ?_
    rcases hat with q | q
    · exact .inl q
    · right; rw [q]; simp
set_option maxHeartbeats 2000000 in
set_option maxRecDepth 20000 in
theorem named_any (w : World) (na : Option Addr) (nc : Nat) (bs : List Nat) (ra : Option Addr) (rc n : Nat) (L : List Int) (hx : L.length = n) (hn : n ≤ 1048576) (h4 : bs.length ≤ 400) (hns : ∀ k, k < bs.length → ∃ g, na = some ⟨g, 0, none⟩ ∧ w.cell? ⟨g, k, none⟩ = some (ptr (bs.getD k 0))) (hl : Nums w ra L) (hin : allIn bs.length L = true) :
    Calls Try.prog 74 #[.slice na bs.length nc, .slice ra n rc] w fun e w' => ∃ g, e = .returned (.slice (some ⟨g, 0, none⟩) n n) ∧ w.heap.size ≤ g ∧ g < w'.heap.size ∧ (∀ k (hk : k < L.length), w'.cell? ⟨g, k, none⟩ = some (ptrOf bs L[k])) ∧ Below w.heap.size w w' := by
  have hmk := run_ptrs n hn w
  have hbb := madePtrs_below w n
  have hpt := madePtrs_at w n
  have hsz : w.heap.size < (madePtrs w n).heap.size := by unfold madePtrs; simp
  generalize madePtrs w n = X at hmk hbb hpt hsz
  have HX : Hid (L.length = n) := hx
  have HNS : Hid (∀ w', Below w.heap.size w w' → ∀ k, k < bs.length → ∃ g, na = some ⟨g, 0, none⟩ ∧ w'.cell? ⟨g, k, none⟩ = some (ptr (bs.getD k 0))) := fun w' hb k hk => by
    obtain ⟨g, e, hc⟩ := hns k hk
    exact ⟨g, e, by rw [hb.cell (p := ⟨g, k, none⟩) (World.block_lt_of_cell? w _ hc)]; exact hc⟩
  have HLN : Hid (∀ w', Below w.heap.size w w' → Nums w' ra L) := fun w' h => hl.below h
  have HIN : Hid (∀ k (hk : k < L.length), 0 ≤ L[k] ∧ L[k] ≤ (bs.length : Int)) := fun k hk => by
    unfold allIn at hin
    have := List.all_eq_true.1 hin _ (List.getElem_mem hk)
    simp only [Bool.and_eq_true, decide_eq_true_eq] at this
    exact this
  have HB0 : Hid (Below w.heap.size w X) := hbb
  have HP0 : Hid (∀ i, i < n → X.cell? ⟨w.heap.size, i, none⟩ = some (.pointer none) ∧ X.frozen? ⟨w.heap.size, i, none⟩ = false) := hpt
  have HSZ : Hid (w.heap.size < X.heap.size) := hsz
  clear hx hns hl hin hbb hpt hsz
  go_enter Try.func74, Try.ntmps74
  go_wp2
  clear hmk
  go_loopw [13] (fun i wr => ∃ k : Nat, k ≤ n ∧ i = .int .i64 (k : Int) ∧ (∀ j, j < n → wr.cell? ⟨w.heap.size, j, none⟩ = some (if j < k then ptrOf bs (L.getD j 0) else .pointer none) ∧ wr.frozen? ⟨w.heap.size, j, none⟩ = false) ∧ Below w.heap.size w wr ∧ w.heap.size < wr.heap.size) (fun i _ => n - (intOf i).toNat)
  case atStart => exact ⟨0, Nat.zero_le _, rfl, fun j hj => ⟨by rw [if_neg (by omega)]; exact (HP0.out j hj).1, (HP0.out j hj).2⟩, HB0.out, HSZ.out⟩
  case round =>
    clear HP0 HB0 HSZ
    obtain ⟨k, hk, rfl, hrow, hb, hsz⟩ := hrel
    have HR : Hid (∀ j, j < n → wr.cell? ⟨w.heap.size, j, none⟩ = some (if j < k then ptrOf bs (L.getD j 0) else .pointer none) ∧ wr.frozen? ⟨w.heap.size, j, none⟩ = false) := hrow
    have HB : Hid (Below w.heap.size w wr) := hb
    have HSZ : Hid (w.heap.size < wr.heap.size) := hsz
    clear hrow hb hsz
    by_cases hlt : k < n
    · have hlti : (k : Int) < (n : Int) := by omega
      have hk0 : (0 : Int) ≤ (k : Int) := by omega
      have hkl : k < L.length := by have := HX.out; omega
      obtain ⟨b5, o5, rfl, e5⟩ := HLN.out wr HB.out k hkl
      obtain ⟨hx0, hxn⟩ := HIN.out k hkl
      have hgd : L.getD k 0 = L[k] := by rw [List.getD_eq_getElem?_getD, List.getElem?_eq_getElem hkl]; rfl
      obtain ⟨d0, f0⟩ := HR.out k hlt
      rw [if_neg (by omega)] at d0
      have HGD : Hid (L.getD k 0 = L[k]) := hgd
      clear hgd
      generalize L[k] = x at e5 hx0 hxn HGD
      by_cases hx : 0 < x
      · obtain ⟨m, rfl⟩ : ∃ m : Nat, x = (m : Int) + 1 := ⟨(x - 1).toNat, by omega⟩
        have hmn : m < bs.length := by omega
        have hmi : (m : Int) < (bs.length : Int) := by omega
        have hm0 : (0 : Int) ≤ (m : Int) := by omega
        obtain ⟨ng, rfl, e6⟩ := HNS.out wr HB.out m hmn
        have HPO : Hid (ptrOf bs (L.getD k 0) = ptr (bs.getD m 0)) := by show ptrOf bs _ = _; rw [HGD.out, ptrOf_one]
        generalize bs.getD m 0 = mb at e6 HPO
        have e7 : wr.cell? ⟨ng, m, none⟩ = some (.pointer (some ⟨mb, 0, none⟩)) := e6
        clear e6
        clear hx hx0 hxn hmn
        go_wp2
        go_roundw
        case rel =>
          refine ⟨k + 1, by omega, by go_num, fun j hj => ?_, HB.out.setCell (p := ⟨w.heap.size, k, none⟩) (Nat.le_refl _) _, by simp; exact HSZ.out⟩
          obtain ⟨q0, q1⟩ := HR.out j hj
          rw [World.frozen?_setCell]
          refine ⟨?_, q1⟩
          by_cases e : j = k
          · subst e
            rw [World.cell?_setCell_same _ _ _ d0, if_pos (by omega), HPO.out]
          · rw [World.cell?_setCell_other _ _ _ _ (off_ne (fun q => e q.symm)), q0]
            congr 1
            by_cases hj : j < k
            · rw [if_pos hj, if_pos (by omega)]
            · rw [if_neg hj, if_neg (by omega)]
        case measure => simp [intOf]; omega
      · obtain rfl : x = 0 := by omega
        clear hx hx0 hxn
        go_wp2
        go_roundw
        case rel =>
          refine ⟨k + 1, by omega, by go_num, fun j hj => ?_, HB.out, HSZ.out⟩
          obtain ⟨q0, q1⟩ := HR.out j hj
          refine ⟨?_, q1⟩
          rw [q0]
          congr 1
          by_cases e : j = k
          · subst e
            rw [if_neg (by omega), if_pos (by omega), HGD.out]; rfl
          · by_cases hj : j < k
            · rw [if_pos hj, if_pos (by omega)]
            · rw [if_neg hj, if_neg (by omega)]
        case measure => simp [intOf]; omega
    · obtain rfl : k = n := by omega
      go_wp2
      go_ret
      refine ⟨w.heap.size, rfl, Nat.le_refl _, HSZ.out, fun j hj => ?_, HB.out⟩
      obtain ⟨q0, _⟩ := HR.out j (by have := HX.out; omega)
      rw [q0, if_pos (by have := HX.out; omega), List.getD_eq_getElem?_getD, List.getElem?_eq_getElem hj]; rfl
end Go.Proofs.Ythjfgibflbbgmaa.gs
