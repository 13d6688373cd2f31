/-
  Drawn types that are hurt: one left out, one changed, some more; nothing that was there is written but the reader's own place and the types' own row.
-/
import Derived.Test.YtnacdfoejmjlgaaDrawTy
import Derived.Test.YtnacdfoejmjlgaaTxt
namespace Go.Proofs.Ytnacdfoejmjlgaa.rd
open Go.RowKit
open txt ints

theorem own_openT {w : World} {base : Nat} {e : TypeId} {size : Nat} {v : Value} {n : Nat} {xs : List Value} (h : w.ownsRow base e size v n xs) (hn : 0 < n) :
    ∃ g cap, v = .slice (some ⟨g, 0, none⟩) n cap ∧ base ≤ g ∧ g < w.heap.size ∧ (∀ j (hj : j < xs.length), w.cell? ⟨g, j, none⟩ = some xs[j] ∧ w.frozen? ⟨g, j, none⟩ = false) ∧
      (∀ j x, j < xs.length → (w.setCell ⟨g, j, none⟩ x).ownsRow base e size v n (xs.set j x)) := by
  obtain ⟨hl, hh⟩ := h
  rcases hh with ⟨_, h0⟩ | ⟨g, cap, cur, rfl, hb, hg, hc, hcm, hcs, ht⟩
  · omega
  · refine ⟨g, cap, rfl, hb, ?_, fun j hj => ?_, fun j x hj => ?_⟩
    · rcases Nat.lt_or_ge g w.heap.size with q | q
      · exact q
      · rw [Array.getElem?_eq_none q] at hg; cases hg
    · refine ⟨?_, frozen_of_row w g j _ _ hg⟩
      rw [← List.getElem?_eq_getElem hj, cell_of_row w g j cur _ (0, 0) hg, ← ht, List.getElem?_take, if_pos (by omega)]
      simp
    · refine ⟨by simp [hl], .inr ⟨g, cap, cur.setIfInBounds j x, rfl, hb, heap_setCell_same w g j cur e x hg, hc, hcm, by simp [hcs], ?_⟩⟩
      rw [Array.toList_setIfInBounds, List.take_set, ht]
theorem wpList_pushG {ops : Array Oper} {rest : List Oper} {o : Oper} {a : Act} {Q : Exit → Act → World → Prop} (X : World) (hgd : o.guard = none) (s x : Operand)
    (ho : o.op = .call { callee := .builtin .append, args := #[s, x], argTypes := #[24, 24] }) (base : Nat) (v : Value) (xs : List ByteArray) (y : ByteArray)
    (hown : X.ownsRow base 9 1 v xs.length (xs.map Value.string)) (hs : a.eval s = v) (hx : a.eval x = .slice (some ⟨X.heap.size, 0, none⟩) 1 1) (hn : xs.length ≤ 1048576) (hbase : base ≤ X.heap.size)
    (h : ∀ g cap w', w'.ownsRow base 9 1 (.slice (some ⟨g, 0, none⟩) (xs.length + 1) cap) (xs ++ [y]).length ((xs ++ [y]).map Value.string) → X.grownBy w' v.ownBlock → (v.ownBlock = some g ∨ X.heap.size ≤ g) → Below base X w' → base ≤ w'.heap.size → wpList Try.prog ops Q rest (a.put o.dst (.slice (some ⟨g, 0, none⟩) (xs.length + 1) cap)) w') :
    wpList Try.prog ops Q (o :: rest) a (X.alloc (.cells #[.string y] 9)) := by
  obtain ⟨i0, hi, hzz⟩ := Option.map_eq_some_iff.1 infoTxt
  simp only [Prod.mk.injEq] at hzz
  obtain ⟨hz0, hz1, hz2⟩ := hzz
  refine wpList_append_lies _ hgd s x 24 ho base 9 i0 (.string ⟨#[]⟩) 1 16 Try.underlying24 hi hz0 hz1 hz2 rfl (by decide) v xs.length _ hs (hown.alloc _) ⟨X.heap.size, 0, none⟩ 1 1 [.string y] hx rfl ?_ ?_ (by decide) ?_ ?_ ?_ _ rfl ?_
  · intro j u hj
    match j, hj with
    | 0, hj => simp at hj; subst hj; rw [show (⟨X.heap.size, 0, none⟩ : Addr).add 0 = ⟨X.heap.size, 0, none⟩ from rfl, World.cell?_alloc_new]; rfl
  · intro u hu; simp at hu; subst hu; rfl
  · unfold maxLen; omega
  · omega
  · simp; omega
  · intro g cap w' hown' hgrow hat hlt
    have hb : Below base X w' := own_stepT (hown.alloc _) ((Below.refl _ _).alloc hbase _) (by simp; omega) hgrow
    exact h g cap w' (by simpa using hown') (gtrans (World.grownBy_alloc X _ _) hgrow) (hat.imp id (fun q => by rw [q]; simp)) hb (Nat.le_trans hbase hb.size)
/-- All that was there is as it was, but the reader's place and a value's own row. -/
def Fm (w : World) (R : Nat) (v0 : Value) (wr : World) : Prop := w.heap.size ≤ wr.heap.size ∧ ∀ k, k < w.heap.size → k ≠ R → v0.ownBlock ≠ some k → wr.heap[k]? = w.heap[k]?
/-- The value's row is that one, or new. -/
def Ow (w : World) (v0 o : Value) : Prop := o.ownBlock = none ∨ o.ownBlock = v0.ownBlock ∨ ∃ g, w.heap.size ≤ g ∧ o.ownBlock = some g
theorem Fm.start (w : World) (R : Nat) (v0 : Value) : Fm w R v0 w := ⟨Nat.le_refl _, fun _ _ _ _ => rfl⟩
theorem Fm.drawn {w : World} {R : Nat} {v0 : Value} {wr w' : World} (h : Fm w R v0 wr) (hg : wr.grownBy w' (some R)) : Fm w R v0 w' :=
  ⟨Nat.le_trans h.1 hg.size, fun k hk hR hv => (hg.block k (Nat.lt_of_lt_of_le hk h.1) (fun q => hR (Option.some.inj q))).trans (h.2 k hk hR hv)⟩
theorem Fm.set {w : World} {R : Nat} {v0 : Value} {wr : World} (h : Fm w R v0 wr) (g o : Nat) (x : Value) (hv : v0.ownBlock = some g) : Fm w R v0 (wr.setCell ⟨g, o, none⟩ x) :=
  ⟨by simpa using h.1, fun k hk hR hn => (Below.heap_setCell _ _ _ _ (fun q => hn (by rw [hv, q]))).trans (h.2 k hk hR hn)⟩
theorem Fm.push {w : World} {R : Nat} {v0 o : Value} {wr w' : World} (h : Fm w R v0 wr) (ho : Ow w v0 o) (hg : wr.grownBy w' o.ownBlock) : Fm w R v0 w' :=
  ⟨Nat.le_trans h.1 hg.size, fun k hk hR hv => (hg.block k (Nat.lt_of_lt_of_le hk h.1) (fun q => by
    rcases ho with e | e | ⟨g, hg2, e⟩
    · rw [e] at q; cases q
    · exact hv (by rw [← e, ← q])
    · rw [e] at q; have := Option.some.inj q; omega)).trans (h.2 k hk hR hv)⟩
theorem Ow.next {w : World} {v0 o : Value} {X : World} {g n cap : Nat} (h : Ow w v0 o) (hs : w.heap.size ≤ X.heap.size) (hat : o.ownBlock = some g ∨ X.heap.size ≤ g) : Ow w v0 (.slice (some ⟨g, 0, none⟩) n cap) := by
  have e1 : (Value.slice (some ⟨g, 0, none⟩) n cap).ownBlock = some g := rfl
  rcases hat with q | q
  · rcases h with e | e | ⟨g2, hg2, e⟩
    · rw [e] at q; cases q
    · right; left; rw [e1, ← q, e]
    · rw [e] at q; have := Option.some.inj q; right; right; exact ⟨g, by omega, e1⟩
  · right; right; exact ⟨g, by omega, e1⟩
/-- What hurtTypes answers, of a row of the call's own. -/
def HurtAns (U w : World) (v0 : Value) (F R : Nat) (a : Option Addr) (len cap : Nat) (e : Ending) (w' : World) : Prop :=
  ∃ v : Value, e = .returned v ∧ ∃ ys : List ByteArray, ys.length ≤ 13 ∧ (∀ y ∈ ys, y.size ≤ 26) ∧ w'.ownsRow F 9 1 v ys.length (ys.map Value.string) ∧ Rd w' R a len cap ∧ U.grownBy w' (some R) ∧ Fm w R v0 w' ∧ Ow w v0 v
set_option maxHeartbeats 2000000 in
set_option maxRecDepth 20000 in
theorem hurt_types (w : World) (R : Nat) (a : Option Addr) (len cap : Nat) (h : Rd w R a len cap) (U : World) (F : Nat) (hF : R < F) (hU : U.heap.size ≤ F) (hFw : F ≤ w.heap.size) (hg : U.grownBy w (some R)) (v : Value) (xs : List ByteArray) (h1 : 1 ≤ xs.length) (h3 : xs.length ≤ 3) (hz : ∀ x ∈ xs, x.size ≤ 23) (hown : w.ownsRow F 9 1 v xs.length (xs.map Value.string)) :
    Calls Try.prog 48 #[.pointer (some ⟨R, 0, none⟩), v] w fun e w' => HurtAns U w v F R a len cap e w' := by
  have HR : Hid (Rd w R a len cap) := h
  have HG : Hid (U.grownBy w (some R)) := hg
  have HO : Hid (w.ownsRow F 9 1 v xs.length (xs.map Value.string)) := hown
  have HZ : Hid (∀ x ∈ xs, x.size ≤ 23) := hz
  have HUF : Hid (U.heap.size ≤ F) := hU
  have HRF : Hid (R < F) := hF
  have HFW : Hid (F ≤ w.heap.size) := hFw
  have HL : Hid (1 ≤ xs.length ∧ xs.length ≤ 3) := ⟨h1, h3⟩
  clear h hg hown hz hU hF hFw h1 h3
  go_enter Try.func48, Try.ntmps48
  go_wp2_with fail
  refine (below_pos w R a len cap HR.out 30 (by omega) (by omega)).mono ?_
  rintro e w1 ⟨u, rfl, hu, hr1, hb1⟩
  have HR1 : Hid (Rd w1 R a len cap) := hr1
  have HG1 : Hid (U.grownBy w1 (some R)) := gtrans HG.out hb1
  have HO1 : Hid (w1.ownsRow F 9 1 v xs.length (xs.map Value.string)) := own_rdT HO.out hb1 HRF.out
  have HF1 : Hid (F ≤ w1.heap.size) := Nat.le_trans HFW.out hb1.size
  have HM1 : Hid (Fm w R v w1) := (Fm.start w R v).drawn hb1
  clear hr1 hb1 HR HG HO HFW
  by_cases h0 : u = 0
  · subst h0
    go_wp2
    go_ret
    exact ⟨.slice none 0 0, rfl, [], by simp, (fun y hy => by cases hy), ⟨rfl, .inl ⟨rfl, rfl⟩⟩, HR1.out, HG1.out, HM1.out, .inl rfl⟩
  have e0 : ((u : Int) == 0) = false := by simp; omega
  by_cases h1 : u = 1
  · subst h1
    obtain ⟨g, cp, hvv, hgF, hgl, hcell, hset⟩ := own_openT HO1.out (by have := HL.out; omega)
    subst hvv
    obtain ⟨c0, f0⟩ := hcell 0 (by rw [List.length_map]; have := HL.out; omega)
    have HB : Hid (Below F w1 (w1.setCell ⟨g, 0, none⟩ (.string ⟨#[]⟩))) := (Below.refl _ _).setCell (p := ⟨g, 0, none⟩) hgF _
    have HOS : Hid ((w1.setCell ⟨g, 0, none⟩ (.string ⟨#[]⟩)).ownsRow F 9 1 (.slice (some ⟨g, 0, none⟩) xs.length cp) (xs.set 0 ⟨#[]⟩).length ((xs.set 0 ⟨#[]⟩).map Value.string)) := by
      have h2 := hset 0 (.string ⟨#[]⟩) (by rw [List.length_map]; have := HL.out; omega)
      rw [List.map_set, List.length_set]
      exact h2
    have hlt : (0 : Int) < (xs.length : Int) := by have := HL.out; omega
    clear hcell hset e0 h0
    go_wp2
    go_ret
    refine ⟨.slice (some ⟨g, 0, none⟩) xs.length cp, rfl, xs.set 0 (⟨#[]⟩ : ByteArray), by have := HL.out; rw [List.length_set]; omega, fun y hy => ?_, HOS.out, HR1.out.above (HB.out.mono (by have := HRF.out; omega)), gBt HG1.out (HB.out.mono HUF.out), HM1.out.set g 0 _ rfl, .inr (.inl rfl)⟩
    rcases List.mem_or_eq_of_mem_set hy with q | q
    · have := HZ.out y q; omega
    · rw [q]; show (0 : Nat) ≤ 26; omega
  have e1 : ((u : Int) == 1) = false := by simp; omega
  by_cases h2 : u = 2
  · subst h2
    obtain ⟨g, cp, hvv, hgF, hgl, hcell, hset⟩ := own_openT HO1.out (by have := HL.out; omega)
    subst hvv
    obtain ⟨c0, f0⟩ := hcell 0 (by rw [List.length_map]; have := HL.out; omega)
    have hl0 : 0 < xs.length := by have := HL.out; omega
    rw [List.getElem_map] at c0
    have hs0 : xs[0].size ≤ 23 := HZ.out _ (List.getElem_mem hl0)
    obtain ⟨s, hs⟩ : ∃ s, s = xs[0] := ⟨_, rfl⟩
    rw [← hs] at c0 hs0
    have hs1 : (⟨#[120]⟩ : ByteArray).size = 1 := rfl
    have HB : Hid (Below F w1 (w1.setCell ⟨g, 0, none⟩ (.string (s ++ ⟨#[120]⟩)))) := (Below.refl _ _).setCell (p := ⟨g, 0, none⟩) hgF _
    have HOS : Hid ((w1.setCell ⟨g, 0, none⟩ (.string (s ++ ⟨#[120]⟩))).ownsRow F 9 1 (.slice (some ⟨g, 0, none⟩) xs.length cp) (xs.set 0 (s ++ ⟨#[120]⟩)).length ((xs.set 0 (s ++ ⟨#[120]⟩)).map Value.string)) := by
      have h2 := hset 0 (.string (s ++ ⟨#[120]⟩)) (by rw [List.length_map]; have := HL.out; omega)
      rw [List.map_set, List.length_set]
      exact h2
    have hlt : (0 : Int) < (xs.length : Int) := by have := HL.out; omega
    have HS0 : Hid (s.size ≤ 23) := hs0
    clear hcell hset e0 e1 h0 h1 hs
    go_wp2
    go_ret
    refine ⟨.slice (some ⟨g, 0, none⟩) xs.length cp, rfl, xs.set 0 (s ++ (⟨#[120]⟩ : ByteArray)), by have := HL.out; rw [List.length_set]; omega, fun y hy => ?_, HOS.out, HR1.out.above (HB.out.mono (by have := HRF.out; omega)), gBt HG1.out (HB.out.mono HUF.out), HM1.out.set g 0 _ rfl, .inr (.inl rfl)⟩
    rcases List.mem_or_eq_of_mem_set hy with q | q
    · have := HZ.out y q; omega
    · rw [q, ByteArray.size_append, hs1]; have := HS0.out; omega
  have e2 : ((u : Int) == 2) = false := by simp; omega
  by_cases h3 : u = 3
  · subst h3
    go_wp2_with fail
    refine (kinds_any w1 R a len cap HR1.out 3 (by omega) (by omega)).mono ?_
    rintro e w2 ⟨s, rfl, hs1, hs3, hr2, hb2⟩
    have HR2 : Hid (Rd w2 R a len cap) := hr2
    have HG2 : Hid (U.grownBy w2 (some R)) := gtrans HG1.out hb2
    have HO2 : Hid (w2.ownsRow F 9 1 v xs.length (xs.map Value.string)) := own_rdT HO1.out hb2 HRF.out
    have HM2 : Hid (Fm w R v w2) := HM1.out.drawn hb2
    clear hr2 hb2
    obtain ⟨g, cp, rfl, hgF, hgl, hcell, hset⟩ := own_openT HO2.out (by have := HL.out; omega)
    obtain ⟨c0, f0⟩ := hcell 0 (by rw [List.length_map]; have := HL.out; omega)
    obtain ⟨p, hp⟩ : ∃ p, p = (⟨#[105, 105, 105, 105, 105, 105, 105, 105, 105, 105, 105, 105, 105, 105, 105, 105, 105, 105, 105, 105, 105, 105]⟩ : ByteArray) := ⟨_, rfl⟩
    have hp22 : p.size = 22 := by rw [hp]; rfl
    have HP : Hid (p.size = 22) := hp22
    have HB : Hid (Below F w2 (w2.setCell ⟨g, 0, none⟩ (.string (p ++ s)))) := (Below.refl _ _).setCell (p := ⟨g, 0, none⟩) hgF _
    have HOS : Hid ((w2.setCell ⟨g, 0, none⟩ (.string (p ++ s))).ownsRow F 9 1 (.slice (some ⟨g, 0, none⟩) xs.length cp) (xs.set 0 (p ++ s)).length ((xs.set 0 (p ++ s)).map Value.string)) := by
      have h2 := hset 0 (.string (p ++ s)) (by rw [List.length_map]; have := HL.out; omega)
      rw [List.map_set, List.length_set]
      exact h2
    have hlt : (0 : Int) < (xs.length : Int) := by have := HL.out; omega
    have HS0 : Hid (s.size ≤ 3) := hs3
    clear hcell hset e0 e1 e2 h0 h1 h2
    go_wp2_with (rw [← hp])
    go_ret
    refine ⟨.slice (some ⟨g, 0, none⟩) xs.length cp, rfl, xs.set 0 (p ++ s), by have := HL.out; rw [List.length_set]; omega, fun y hy => ?_, by first | exact HOS.out | (rw [← hp]; exact HOS.out), ?_, ?_, HM2.out.set g 0 _ rfl, .inr (.inl rfl)⟩
    · rcases List.mem_or_eq_of_mem_set hy with q | q
      · have := HZ.out y q; omega
      · rw [q, ByteArray.size_append, HP.out]; have := HS0.out; omega
    · first | exact HR2.out.above (HB.out.mono (by have := HRF.out; omega)) | (rw [← hp]; exact HR2.out.above (HB.out.mono (by have := HRF.out; omega)))
    · first | exact gBt HG2.out (HB.out.mono HUF.out) | (rw [← hp]; exact gBt HG2.out (HB.out.mono HUF.out))
  have e3 : ((u : Int) == 3) = false := by simp; omega
  by_cases h4 : u = 4
  · subst h4
    clear e0 e1 e2 e3 h0 h1 h2 h3
    go_wp2
    go_loopw [1, 5] (fun o i wr => ∃ (k : Nat) (ys : List ByteArray), i = .int .i64 (k : Int) ∧ k ≤ 13 ∧ ys.length ≤ 13 ∧ (∀ y ∈ ys, y.size ≤ 26) ∧ wr.ownsRow F 9 1 o ys.length (ys.map Value.string) ∧ Rd wr R a len cap ∧ U.grownBy wr (some R) ∧ F ≤ wr.heap.size ∧ Fm w R v wr ∧ Ow w v o) (fun _ i _ => 13 - (intOf i).toNat)
    case atStart => exact ⟨0, xs, rfl, by omega, by have := HL.out; omega, fun y hy => by have := HZ.out y hy; omega, HO1.out, HR1.out, HG1.out, HF1.out, HM1.out, .inr (.inl rfl)⟩
    case round =>
      obtain ⟨k, ys, rfl, hk, hyl, hyz, hown, hr, hg, hFr, hfm, how⟩ := hrel
      have HMr : Hid (Fm w R v wr) := hfm
      have HWr : Hid (Ow w v u1) := how
      have HRr : Hid (Rd wr R a len cap) := hr
      have HGr : Hid (U.grownBy wr (some R)) := hg
      have HOr : Hid (wr.ownsRow F 9 1 u1 ys.length (ys.map Value.string)) := hown
      have HFr : Hid (F ≤ wr.heap.size) := hFr
      have HYZ : Hid (∀ y ∈ ys, y.size ≤ 26) := hyz
      have HYL : Hid (ys.length ≤ 13) := hyl
      obtain ⟨ay, gy, cy, rfl, hgy, hty⟩ := txts_of_row hown
      clear hr hg hown hFr hyz hgy hty hfm how
      by_cases hlt : k < 13
      · have hlti : (k : Int) < 13 := by omega
        go_wp2_with fail
        refine (below_pos wr R a len cap HRr.out 3 (by omega) (by omega)).mono ?_
        rintro e w2 ⟨q, rfl, hq, hr2, hb2⟩
        have HR2 : Hid (Rd w2 R a len cap) := hr2
        have HG2 : Hid (U.grownBy w2 (some R)) := gtrans HGr.out hb2
        have HO2 : Hid (w2.ownsRow F 9 1 (.slice ay ys.length cy) ys.length (ys.map Value.string)) := own_rdT HOr.out hb2 HRF.out
        have HF2 : Hid (F ≤ w2.heap.size) := Nat.le_trans HFr.out hb2.size
        have HM2 : Hid (Fm w R v w2) := HMr.out.drawn hb2
        clear hr2 hb2
        by_cases hlen : (ys.length : Int) < 11 + (q : Int)
        · have HY12 : Hid (ys.length ≤ 12) := by show ys.length ≤ 12; omega
          have HYb : ys.length ≤ 1048576 := by omega
          go_wp2_with (refine wpList_pushG w2 (by rfl) _ _ (by rfl) F (.slice ay ys.length cy) ys ⟨#[114]⟩ HO2.out (by rfl) (by rfl) HYb HF2.out ?_; intro g cp w5 hown5 hgr5 hat5 hb5 hs5; have HO5 : Hid (_) := hown5; have HM5 : Hid (Fm w R v w5) := HM2.out.push HWr.out hgr5; have HW5 : Hid (Ow w v (.slice (some ⟨g, 0, none⟩) (ys.length + 1) cp)) := HWr.out.next HM2.out.1 hat5; have HR5 : Hid (Rd w5 R a len cap) := HR2.out.above (hb5.mono (by have := HRF.out; omega)); have HG5 : Hid (U.grownBy w5 (some R)) := gBt HG2.out (hb5.mono HUF.out); have HF5 : Hid (F ≤ w5.heap.size) := hs5; clear hown5 hb5 hs5 hgr5 hat5)
          go_roundw
          case rel =>
            refine ⟨k + 1, ys ++ [(⟨#[114]⟩ : ByteArray)], by go_num, by omega, by have := HY12.out; simp; omega, fun y hy => ?_, HO5.out, HR5.out, HG5.out, HF5.out, HM5.out, HW5.out⟩
            rcases List.mem_append.1 hy with z | z
            · exact HYZ.out y z
            · simp at z; rw [z]; show (1 : Nat) ≤ 26; omega
          case measure => simp [intOf]; omega
        · go_wp2
          go_ret
          exact ⟨_, rfl, ys, HYL.out, HYZ.out, HO2.out, HR2.out, HG2.out, HM2.out, HWr.out⟩
      · have hlti : ¬ (k : Int) < 13 := by omega
        go_wp2
        go_ret
        exact ⟨_, rfl, ys, HYL.out, HYZ.out, HOr.out, HRr.out, HGr.out, HMr.out, HWr.out⟩
  have e4 : ((u : Int) == 4) = false := by simp; omega
  clear h0 h1 h2 h3 h4
  go_wp2
  go_ret
  exact ⟨v, rfl, xs, by have := HL.out; omega, fun y hy => by have := HZ.out y hy; omega, HO1.out, HR1.out, HG1.out, HM1.out, .inr (.inl rfl)⟩
end Go.Proofs.Ytnacdfoejmjlgaa.rd
