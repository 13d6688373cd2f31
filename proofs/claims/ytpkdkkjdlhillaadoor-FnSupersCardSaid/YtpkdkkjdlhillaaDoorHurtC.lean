/-
  Drawn configs that are hurt; nothing that was there is written but the reader's own place and the types' own row.
-/
import Derived.Test.YtpkdkkjdlhillaaDoorDrawC
import Derived.Test.YtpkdkkjdlhillaaDoorHurtK
namespace Go.Proofs.YtpkdkkjdlhillaaDoor.rd
open Go.RowKit
open txt ints

/-- A config in a block cb, the block behind it for the answer. -/
structure Cf2 (U : World) (F R cb : Nat) (a : Option Addr) (len cap : Nat) (n1 n2 n3 : Int) (v : Value) (xs : List ByteArray) (wr : World) : Prop where
  c0 : wr.cell? ⟨cb, 0, none⟩ = some (.int .i64 n1)
  c1 : wr.cell? ⟨cb, 1, none⟩ = some (.int .i64 n2)
  c2 : wr.cell? ⟨cb, 2, none⟩ = some (.int .i64 n3)
  c3 : wr.cell? ⟨cb, 3, none⟩ = some v
  fr : ∀ i, wr.frozen? ⟨cb, i, none⟩ = false
  r : ∀ i, i < 4 → ∃ v, wr.cell? ⟨cb + 1, i, none⟩ = some v
  rf : ∀ i, wr.frozen? ⟨cb + 1, i, none⟩ = false
  lt : cb + 1 < wr.heap.size
  own : wr.ownsRow F 9 1 v xs.length (xs.map Value.string)
  ob : v.ownBlock ≠ some cb ∧ v.ownBlock ≠ some (cb + 1)
  rd : Rd wr R a len cap
  grown : U.grownBy wr (some R)
  atF : F ≤ cb
  RF : R < F
  UF : U.heap.size ≤ F
theorem Cf2.drawn {U : World} {F R cb : Nat} {a : Option Addr} {len cap : Nat} {n1 n2 n3 : Int} {v : Value} {xs : List ByteArray} {wr : World} {w' : World} (h : Cf2 U F R cb a len cap n1 n2 n3 v xs wr) (hg : wr.grownBy w' (some R)) (hr : Rd w' R a len cap) : Cf2 U F R cb a len cap n1 n2 n3 v xs w' := by
  have hc := hg.block cb (by have := h.lt; omega) (fun e => by have := Option.some.inj e; have := h.atF; have := h.RF; omega)
  have hb := hg.block (cb + 1) h.lt (fun e => by have := Option.some.inj e; have := h.atF; have := h.RF; omega)
  refine ⟨by rw [World.cell?_of_block (a := ⟨cb, 0, none⟩) hc]; exact h.c0, by rw [World.cell?_of_block (a := ⟨cb, 1, none⟩) hc]; exact h.c1, by rw [World.cell?_of_block (a := ⟨cb, 2, none⟩) hc]; exact h.c2, by rw [World.cell?_of_block (a := ⟨cb, 3, none⟩) hc]; exact h.c3, fun i => by rw [World.frozen?_of_block (a := ⟨cb, i, none⟩) hc]; exact h.fr i, fun i hi => ?_, fun i => by rw [World.frozen?_of_block (a := ⟨cb + 1, i, none⟩) hb]; exact h.rf i, Nat.lt_of_lt_of_le h.lt hg.size, own_rdT h.own hg h.RF, h.ob, hr, gtrans h.grown hg, h.atF, h.RF, h.UF⟩
  obtain ⟨u, hu⟩ := h.r i hi
  exact ⟨u, by rw [World.cell?_of_block (a := ⟨cb + 1, i, none⟩) hb]; exact hu⟩
theorem Cf2.put {U : World} {F R cb : Nat} {a : Option Addr} {len cap : Nat} {n1 n2 n3 : Int} {v : Value} {xs : List ByteArray} {wr : World} {m1 m2 m3 : Int} (h : Cf2 U F R cb a len cap n1 n2 n3 v xs wr) (i : Nat) (x : Int)
    (h0 : (wr.setCell ⟨cb, i, none⟩ (.int .i64 x)).cell? ⟨cb, 0, none⟩ = some (.int .i64 m1)) (h1 : (wr.setCell ⟨cb, i, none⟩ (.int .i64 x)).cell? ⟨cb, 1, none⟩ = some (.int .i64 m2)) (h2 : (wr.setCell ⟨cb, i, none⟩ (.int .i64 x)).cell? ⟨cb, 2, none⟩ = some (.int .i64 m3)) (h3 : (wr.setCell ⟨cb, i, none⟩ (.int .i64 x)).cell? ⟨cb, 3, none⟩ = some v) : Cf2 U F R cb a len cap m1 m2 m3 v xs (wr.setCell ⟨cb, i, none⟩ (.int .i64 x)) := by
  have hb : Below cb wr (wr.setCell ⟨cb, i, none⟩ (.int .i64 x)) := (Below.refl _ _).setCell (p := ⟨cb, i, none⟩) (Nat.le_refl _) _
  refine ⟨h0, h1, h2, h3, fun i => by rw [World.frozen?_setCell]; exact h.fr i, fun j hj => ?_, fun i => by rw [World.frozen?_setCell]; exact h.rf i, by have := h.lt; simpa using this, ?_, h.ob, h.rd.above (hb.mono (by have := h.atF; have := h.RF; omega)), gBt h.grown (hb.mono (by have := h.atF; have := h.UF; omega)), h.atF, h.RF, h.UF⟩
  · obtain ⟨u, hu⟩ := h.r j hj
    exact cell?_setCell_some hu
  · exact h.own.kept (row := some cb) ⟨rfl, rfl, rfl, by simp, fun k _ hk => Below.heap_setCell _ _ _ _ (fun e => hk (by rw [e]))⟩ (.inr h.ob.1)
theorem Cf2.put0 {U : World} {F R cb : Nat} {a : Option Addr} {len cap : Nat} {n1 n2 n3 : Int} {v : Value} {xs : List ByteArray} {wr : World} (h : Cf2 U F R cb a len cap n1 n2 n3 v xs wr) (x : Int) : Cf2 U F R cb a len cap x n2 n3 v xs (wr.setCell ⟨cb, 0, none⟩ (.int .i64 x)) :=
  h.put 0 x (World.cell?_setCell_same _ _ _ h.c0) (by rw [World.cell?_setCell_other _ _ _ _ (by simp)]; exact h.c1) (by rw [World.cell?_setCell_other _ _ _ _ (by simp)]; exact h.c2) (by rw [World.cell?_setCell_other _ _ _ _ (by simp)]; exact h.c3)
theorem Cf2.put1 {U : World} {F R cb : Nat} {a : Option Addr} {len cap : Nat} {n1 n2 n3 : Int} {v : Value} {xs : List ByteArray} {wr : World} (h : Cf2 U F R cb a len cap n1 n2 n3 v xs wr) (x : Int) : Cf2 U F R cb a len cap n1 x n3 v xs (wr.setCell ⟨cb, 1, none⟩ (.int .i64 x)) :=
  h.put 1 x (by rw [World.cell?_setCell_other _ _ _ _ (by simp)]; exact h.c0) (World.cell?_setCell_same _ _ _ h.c1) (by rw [World.cell?_setCell_other _ _ _ _ (by simp)]; exact h.c2) (by rw [World.cell?_setCell_other _ _ _ _ (by simp)]; exact h.c3)
theorem Cf2.put2 {U : World} {F R cb : Nat} {a : Option Addr} {len cap : Nat} {n1 n2 n3 : Int} {v : Value} {xs : List ByteArray} {wr : World} (h : Cf2 U F R cb a len cap n1 n2 n3 v xs wr) (x : Int) : Cf2 U F R cb a len cap n1 n2 x v xs (wr.setCell ⟨cb, 2, none⟩ (.int .i64 x)) :=
  h.put 2 x (by rw [World.cell?_setCell_other _ _ _ _ (by simp)]; exact h.c0) (by rw [World.cell?_setCell_other _ _ _ _ (by simp)]; exact h.c1) (World.cell?_setCell_same _ _ _ h.c2) (by rw [World.cell?_setCell_other _ _ _ _ (by simp)]; exact h.c3)
/-- Other types in it, of a row that is not its own block. -/
theorem Cf2.types {U : World} {F R cb : Nat} {a : Option Addr} {len cap : Nat} {n1 n2 n3 : Int} {v : Value} {xs : List ByteArray} {wr : World} {u : Value} {ys : List ByteArray} {w' : World} (h : Cf2 U F R cb a len cap n1 n2 n3 v xs wr) (hm : Fm wr R v w') (how : Ow wr v u) (hown : w'.ownsRow F 9 1 u ys.length (ys.map Value.string)) (hr : Rd w' R a len cap) (hg : U.grownBy w' (some R)) : Cf2 U F R cb a len cap n1 n2 n3 u ys (w'.setCell ⟨cb, 3, none⟩ u) := by
  have hc := hm.2 cb (by have := h.lt; omega) (by have := h.atF; have := h.RF; omega) h.ob.1
  have hb := hm.2 (cb + 1) h.lt (by have := h.atF; have := h.RF; omega) h.ob.2
  have c0 : w'.cell? ⟨cb, 0, none⟩ = some (.int .i64 n1) := by rw [World.cell?_of_block (a := ⟨cb, 0, none⟩) hc]; exact h.c0
  have c1 : w'.cell? ⟨cb, 1, none⟩ = some (.int .i64 n2) := by rw [World.cell?_of_block (a := ⟨cb, 1, none⟩) hc]; exact h.c1
  have c2 : w'.cell? ⟨cb, 2, none⟩ = some (.int .i64 n3) := by rw [World.cell?_of_block (a := ⟨cb, 2, none⟩) hc]; exact h.c2
  have c3 : w'.cell? ⟨cb, 3, none⟩ = some v := by rw [World.cell?_of_block (a := ⟨cb, 3, none⟩) hc]; exact h.c3
  have hob : u.ownBlock ≠ some cb ∧ u.ownBlock ≠ some (cb + 1) := by
    rcases how with e | e | ⟨g, hg2, e⟩
    · rw [e]; exact ⟨(fun q => by cases q), (fun q => by cases q)⟩
    · rw [e]; exact h.ob
    · rw [e]; have := h.lt; exact ⟨fun q => by have := Option.some.inj q; omega, fun q => by have := Option.some.inj q; omega⟩
  have hbl : Below cb w' (w'.setCell ⟨cb, 3, none⟩ u) := (Below.refl _ _).setCell (p := ⟨cb, 3, none⟩) (Nat.le_refl _) _
  refine ⟨by rw [World.cell?_setCell_other _ _ _ _ (by simp)]; exact c0, by rw [World.cell?_setCell_other _ _ _ _ (by simp)]; exact c1, by rw [World.cell?_setCell_other _ _ _ _ (by simp)]; exact c2, World.cell?_setCell_same _ _ _ c3, fun i => by rw [World.frozen?_setCell, World.frozen?_of_block (a := ⟨cb, i, none⟩) hc]; exact h.fr i, fun i hi => ?_, fun i => by rw [World.frozen?_setCell, World.frozen?_of_block (a := ⟨cb + 1, i, none⟩) hb]; exact h.rf i, by have := h.lt; have := hm.1; simp; omega, ?_, hob, hr.above (hbl.mono (by have := h.atF; have := h.RF; omega)), gBt hg (hbl.mono (by have := h.atF; have := h.UF; omega)), h.atF, h.RF, h.UF⟩
  · obtain ⟨x, hx⟩ := h.r i hi
    exact cell?_setCell_some (v := x) (by rw [World.cell?_of_block (a := ⟨cb + 1, i, none⟩) hb]; exact hx)
  · exact hown.kept (row := some cb) ⟨rfl, rfl, rfl, by simp, fun k _ hk => Below.heap_setCell _ _ _ _ (fun e => hk (by rw [e]))⟩ (.inr hob.1)
theorem Cf2.kept3 {U : World} {F R cb : Nat} {a : Option Addr} {len cap : Nat} {n1 n2 n3 : Int} {v : Value} {xs : List ByteArray} {wr : World} {w' : World} (h : Cf2 U F R cb a len cap n1 n2 n3 v xs wr) (hm : Fm wr R v w') : w'.cell? ⟨cb, 3, none⟩ = some v ∧ w'.frozen? ⟨cb, 3, none⟩ = false := by
  have hc := hm.2 cb (by have := h.lt; omega) (by have := h.atF; have := h.RF; omega) h.ob.1
  exact ⟨by rw [World.cell?_of_block (a := ⟨cb, 3, none⟩) hc]; exact h.c3, by rw [World.frozen?_of_block (a := ⟨cb, 3, none⟩) hc]; exact h.fr 3⟩
/-- What is answered: a config of the call's own. -/
def CfHurt (U : World) (F R : Nat) (a : Option Addr) (len cap : Nat) (e : Ending) (w' : World) : Prop :=
  ∃ (n1 n2 n3 : Int) (v : Value), e = .returned (.agg #[.int .i64 n1, .int .i64 n2, .int .i64 n3, v]) ∧ (Lit.int .i64 n1).wf = true ∧ (Lit.int .i64 n2).wf = true ∧ (Lit.int .i64 n3).wf = true ∧ ∃ ys : List ByteArray, ys.length ≤ 13 ∧ (∀ y ∈ ys, y.size ≤ 26) ∧ w'.ownsRow F 9 1 v ys.length (ys.map Value.string) ∧ Rd w' R a len cap ∧ U.grownBy w' (some R)
theorem Cf2.done {U : World} {F R cb : Nat} {a : Option Addr} {len cap : Nat} {n1 n2 n3 : Int} {v : Value} {xs : List ByteArray} {wr : World} (h : Cf2 U F R cb a len cap n1 n2 n3 v xs wr) (hw1 : (Lit.int .i64 n1).wf = true) (hw2 : (Lit.int .i64 n2).wf = true) (hw3 : (Lit.int .i64 n3).wf = true) (hl : xs.length ≤ 13) (hz : ∀ y ∈ xs, y.size ≤ 26) :
    CfHurt U F R a len cap (.returned (.agg #[.int .i64 n1, .int .i64 n2, .int .i64 n3, v])) (put4 wr (cb + 1) (.int .i64 n1) (.int .i64 n2) (.int .i64 n3) v) := by
  have hb : Below (cb + 1) wr (put4 wr (cb + 1) (.int .i64 n1) (.int .i64 n2) (.int .i64 n3) v) := ((((Below.refl _ _).setCell (p := ⟨cb + 1, 0, none⟩) (Nat.le_refl _) _).setCell (p := ⟨cb + 1, 1, none⟩) (Nat.le_refl _) _).setCell (p := ⟨cb + 1, 2, none⟩) (Nat.le_refl _) _).setCell (p := ⟨cb + 1, 3, none⟩) (Nat.le_refl _) _
  have hg : wr.grownBy (put4 wr (cb + 1) (.int .i64 n1) (.int .i64 n2) (.int .i64 n3) v) (some (cb + 1)) := grown_trans (grown_trans (grown_trans (grown_set _ _ _ _) (grown_set _ _ _ _)) (grown_set _ _ _ _)) (grown_set _ _ _ _)
  exact ⟨n1, n2, n3, v, rfl, hw1, hw2, hw3, xs, hl, hz, h.own.kept hg (.inr h.ob.2), h.rd.above (hb.mono (by have := h.atF; have := h.RF; omega)), gBt h.grown (hb.mono (by have := h.atF; have := h.UF; omega)), ⟩
set_option maxHeartbeats 4000000 in
set_option maxRecDepth 20000 in
theorem hurt_config (w : World) (R : Nat) (a : Option Addr) (len cap : Nat) (h : Rd w R a len cap) (U : World) (F : Nat) (hF : R < F) (hU : U.heap.size ≤ F) (hFw : F ≤ w.heap.size) (hg : U.grownBy w (some R)) (n1 n2 n3 : Int) (hn1 : 0 ≤ n1 ∧ n1 ≤ 128) (hn2 : 0 ≤ n2 ∧ n2 ≤ 32) (hn3 : 0 ≤ n3 ∧ n3 ≤ 400) (v : Value) (xs : List ByteArray) (h1 : 1 ≤ xs.length) (h3 : xs.length ≤ 3) (hz : ∀ x ∈ xs, x.size ≤ 23) (hown : w.ownsRow F 9 1 v xs.length (xs.map Value.string)) :
    Calls Tryd.prog 56 #[.pointer (some ⟨R, 0, none⟩), .agg #[.int .i64 n1, .int .i64 n2, .int .i64 n3, v]] w fun e w' => CfHurt U F R a len cap e w' := by
  obtain ⟨av, gv, cv, rfl, _, _⟩ := txts_of_row hown
  have hw1 : (Lit.int .i64 n1).wf = true := wf_i64 n1 (by omega) (by omega)
  have hw2 : (Lit.int .i64 n2).wf = true := wf_i64 n2 (by omega) (by omega)
  have hw3 : (Lit.int .i64 n3).wf = true := wf_i64 n3 (by omega) (by omega)
  have HW1 : Hid ((Lit.int .i64 n1).wf = true) := hw1
  have HW2 : Hid ((Lit.int .i64 n2).wf = true) := hw2
  have HW3 : Hid ((Lit.int .i64 n3).wf = true) := hw3
  obtain ⟨W, hW⟩ : ∃ W, W = (w.alloc (.cells #[.int .i64 n1, .int .i64 n2, .int .i64 n3, .slice av xs.length cv] 26)).alloc (.cells #[.int .i64 0, .int .i64 0, .int .i64 0, .slice none 0 0] 26) := ⟨_, rfl⟩
  have HW : Hid (W = (w.alloc (.cells #[.int .i64 n1, .int .i64 n2, .int .i64 n3, .slice av xs.length cv] 26)).alloc (.cells #[.int .i64 0, .int .i64 0, .int .i64 0, .slice none 0 0] 26)) := hW
  obtain ⟨cb, hcb⟩ : ∃ c, c = w.heap.size := ⟨_, rfl⟩
  have HCB : Hid (cb = w.heap.size) := hcb
  have hs1 : (w.alloc (.cells #[.int .i64 n1, .int .i64 n2, .int .i64 n3, .slice av xs.length cv] 26)).heap.size = cb + 1 := by simp [hcb]
  have hbw : Below w.heap.size w W := by rw [hW]; exact ((Below.refl _ _).alloc (Nat.le_refl _) _).alloc (by simp) _
  have q : ∀ i : Nat, ∀ u, #[Value.int .i64 n1, .int .i64 n2, .int .i64 n3, .slice av xs.length cv][i]? = some u → W.cell? ⟨cb, i, none⟩ = some u := fun i u hu => by
    rw [hW, World.cell?_alloc_past _ _ _ (by show cb < _; rw [hs1]; omega), hcb, World.cell?_alloc_new]
    exact hu
  have HC0 : Hid (Cf2 U F R cb a len cap n1 n2 n3 (.slice av xs.length cv) xs W) := by
    refine ⟨q 0 _ rfl, q 1 _ rfl, q 2 _ rfl, q 3 _ rfl, fun i => ?_, fun i hi => ?_, fun i => ?_, ?_, own_below hown hbw, ?_, h.later hbw, gBt hg (hbw.mono (Nat.le_trans hU hFw)), by omega, hF, hU⟩
    · rw [hW, World.frozen?_alloc_past _ _ _ (by show cb < _; rw [hs1]; omega), hcb]
      exact World.frozen?_alloc_new _ _ _ _
    · rw [hW, ← hs1, World.cell?_alloc_new]
      exact ⟨_, Array.getElem?_eq_getElem (by simpa using hi)⟩
    · rw [hW, ← hs1]
      exact World.frozen?_alloc_new _ _ _ _
    · rw [hW]; simp [hcb]
    · have hl := fun g e => (hown.lt g e).2
      exact ⟨fun e => by have := hl _ e; omega, fun e => by have := hl _ e; omega⟩
  have HL : Hid ((1 ≤ xs.length ∧ xs.length ≤ 3) ∧ ∀ x ∈ xs, x.size ≤ 23) := ⟨⟨h1, h3⟩, hz⟩
  have HLZ : Hid (xs.length ≤ 13 ∧ ∀ y ∈ xs, y.size ≤ 26) := ⟨by omega, fun y hy => by have := hz y hy; omega⟩
  clear h hg hown hz hU hF hFw h1 h3 q hs1 hbw hW hcb hw1 hw2 hw3 hn2 hn3
  go_enter Tryd.func56, Tryd.ntmps56
  go_wp2_with (first | (rw [← HW.out, ← HCB.out]) | (rw [← HW.out]))
  refine (below_pos _ R a len cap HC0.out.rd 16 (by omega) (by omega)).mono ?_
  rintro e w1 ⟨u, rfl, hu, hr1, hb1⟩
  have HC1 : Hid (Cf2 U F R cb a len cap n1 n2 n3 (.slice av xs.length cv) xs w1) := HC0.out.drawn hb1 hr1
  clear hr1 hb1 HC0
  by_cases h0 : u = 0
  · subst h0
    go_wp2_with fail
    refine (off_any w1 R a len cap HC1.out.rd 8 128 (by omega) (by omega) (by omega)).mono ?_
    rintro e w2 ⟨x, rfl, hwx, hr2, hb2⟩
    have HC2 : Hid (Cf2 U F R cb a len cap n1 n2 n3 (.slice av xs.length cv) xs w2) := HC1.out.drawn hb2 hr2
    have HWX : Hid ((Lit.int .i64 x).wf = true) := hwx
    have HC3 : Hid (Cf2 U F R cb a len cap x n2 n3 (.slice av xs.length cv) xs (w2.setCell ⟨cb, 0, none⟩ (.int .i64 x))) := HC2.out.put0 x
    have k0 := HC2.out.c0
    have kf := HC2.out.fr 0
    clear hr2 hb2 hwx hn1
    have y0 := HC3.out.c0
    have y1 := HC3.out.c1
    have y2 := HC3.out.c2
    have y3 := HC3.out.c3
    obtain ⟨⟨x0, z0⟩, ⟨x1, z1⟩, ⟨x2, z2⟩, ⟨x3, z3⟩⟩ := And.intro (HC3.out.r 0 (by decide)) (And.intro (HC3.out.r 1 (by decide)) (And.intro (HC3.out.r 2 (by decide)) (HC3.out.r 3 (by decide))))
    have r0 := HC3.out.rf 0
    have r1 := HC3.out.rf 1
    have r2 := HC3.out.rf 2
    have r3 := HC3.out.rf 3
    have HDN : Hid (CfHurt _ _ _ _ _ _ _ _) := HC3.out.done HWX.out HW2.out HW3.out HLZ.out.1 HLZ.out.2
    have HQ : Hid (_ ∧ _ ∧ _ ∧ _) := got4 HC3.out.r (.int .i64 (x)) (.int .i64 (n2)) (.int .i64 (n3)) (.slice av xs.length cv)
    go_wp2
    refine bodyPost_ret (v := .agg #[.int .i64 (x), .int .i64 (n2), .int .i64 (n3), .slice av xs.length cv]) ?_ rfl HDN.out
    obtain ⟨q0, q1, q2, q3⟩ := HQ.out
    unfold put4 at q0 q1 q2 q3
    simp [results, Tryd.results56, go_sem, q0, q1, q2, q3]
  have e0 : ((u : Int) == 0) = false := by simp; omega
  by_cases h1 : u = 1
  · subst h1
    go_wp2_with fail
    refine (off_any w1 R a len cap HC1.out.rd 1 32 (by omega) (by omega) (by omega)).mono ?_
    rintro e w2 ⟨x, rfl, hwx, hr2, hb2⟩
    have HC2 : Hid (Cf2 U F R cb a len cap n1 n2 n3 (.slice av xs.length cv) xs w2) := HC1.out.drawn hb2 hr2
    have HWX : Hid ((Lit.int .i64 x).wf = true) := hwx
    have HC3 : Hid (Cf2 U F R cb a len cap n1 x n3 (.slice av xs.length cv) xs (w2.setCell ⟨cb, 1, none⟩ (.int .i64 x))) := HC2.out.put1 x
    have k0 := HC2.out.c1
    have kf := HC2.out.fr 1
    clear hr2 hb2 hwx hn1
    have y0 := HC3.out.c0
    have y1 := HC3.out.c1
    have y2 := HC3.out.c2
    have y3 := HC3.out.c3
    obtain ⟨⟨x0, z0⟩, ⟨x1, z1⟩, ⟨x2, z2⟩, ⟨x3, z3⟩⟩ := And.intro (HC3.out.r 0 (by decide)) (And.intro (HC3.out.r 1 (by decide)) (And.intro (HC3.out.r 2 (by decide)) (HC3.out.r 3 (by decide))))
    have r0 := HC3.out.rf 0
    have r1 := HC3.out.rf 1
    have r2 := HC3.out.rf 2
    have r3 := HC3.out.rf 3
    have HDN : Hid (CfHurt _ _ _ _ _ _ _ _) := HC3.out.done HW1.out HWX.out HW3.out HLZ.out.1 HLZ.out.2
    have HQ : Hid (_ ∧ _ ∧ _ ∧ _) := got4 HC3.out.r (.int .i64 (n1)) (.int .i64 (x)) (.int .i64 (n3)) (.slice av xs.length cv)
    go_wp2
    refine bodyPost_ret (v := .agg #[.int .i64 (n1), .int .i64 (x), .int .i64 (n3), .slice av xs.length cv]) ?_ rfl HDN.out
    obtain ⟨q0, q1, q2, q3⟩ := HQ.out
    unfold put4 at q0 q1 q2 q3
    simp [results, Tryd.results56, go_sem, q0, q1, q2, q3]
  have e1 : ((u : Int) == 1) = false := by simp; omega
  by_cases h2 : u = 2
  · subst h2
    go_wp2_with fail
    refine (off_any w1 R a len cap HC1.out.rd 2 400 (by omega) (by omega) (by omega)).mono ?_
    rintro e w2 ⟨x, rfl, hwx, hr2, hb2⟩
    have HC2 : Hid (Cf2 U F R cb a len cap n1 n2 n3 (.slice av xs.length cv) xs w2) := HC1.out.drawn hb2 hr2
    have HWX : Hid ((Lit.int .i64 x).wf = true) := hwx
    have HC3 : Hid (Cf2 U F R cb a len cap n1 n2 x (.slice av xs.length cv) xs (w2.setCell ⟨cb, 2, none⟩ (.int .i64 x))) := HC2.out.put2 x
    have k0 := HC2.out.c2
    have kf := HC2.out.fr 2
    clear hr2 hb2 hwx hn1
    have y0 := HC3.out.c0
    have y1 := HC3.out.c1
    have y2 := HC3.out.c2
    have y3 := HC3.out.c3
    obtain ⟨⟨x0, z0⟩, ⟨x1, z1⟩, ⟨x2, z2⟩, ⟨x3, z3⟩⟩ := And.intro (HC3.out.r 0 (by decide)) (And.intro (HC3.out.r 1 (by decide)) (And.intro (HC3.out.r 2 (by decide)) (HC3.out.r 3 (by decide))))
    have r0 := HC3.out.rf 0
    have r1 := HC3.out.rf 1
    have r2 := HC3.out.rf 2
    have r3 := HC3.out.rf 3
    have HDN : Hid (CfHurt _ _ _ _ _ _ _ _) := HC3.out.done HW1.out HW2.out HWX.out HLZ.out.1 HLZ.out.2
    have HQ : Hid (_ ∧ _ ∧ _ ∧ _) := got4 HC3.out.r (.int .i64 (n1)) (.int .i64 (n2)) (.int .i64 (x)) (.slice av xs.length cv)
    go_wp2
    refine bodyPost_ret (v := .agg #[.int .i64 (n1), .int .i64 (n2), .int .i64 (x), .slice av xs.length cv]) ?_ rfl HDN.out
    obtain ⟨q0, q1, q2, q3⟩ := HQ.out
    unfold put4 at q0 q1 q2 q3
    simp [results, Tryd.results56, go_sem, q0, q1, q2, q3]
  have e2 : ((u : Int) == 2) = false := by simp; omega
  by_cases h3 : u = 3
  · subst h3
    have k3 := HC1.out.c3
    go_wp2_with fail
    refine (hurt_types w1 R a len cap HC1.out.rd U F HC1.out.RF HC1.out.UF (by have := HC1.out.lt; have := HC1.out.atF; omega) HC1.out.grown _ xs HL.out.1.1 HL.out.1.2 HL.out.2 HC1.out.own).mono ?_
    rintro e w2 ⟨vy, rfl, ys, hyl, hyz, hown2, hr2, hg2, hfm, how⟩
    obtain ⟨ay, gy, cy, rfl, _, _⟩ := txts_of_row hown2
    have HC3 : Hid (Cf2 U F R cb a len cap n1 n2 n3 (.slice ay ys.length cy) ys (w2.setCell ⟨cb, 3, none⟩ (.slice ay ys.length cy))) := HC1.out.types hfm how hown2 hr2 hg2
    obtain ⟨j3, jf⟩ := HC1.out.kept3 hfm
    have HYL : Hid (ys.length ≤ 13) := hyl
    have HYZ : Hid (∀ y ∈ ys, y.size ≤ 26) := hyz
    clear hyl hyz hown2 hr2 hg2 hfm how hn1 k3
    have y0 := HC3.out.c0
    have y1 := HC3.out.c1
    have y2 := HC3.out.c2
    have y3 := HC3.out.c3
    obtain ⟨⟨x0, z0⟩, ⟨x1, z1⟩, ⟨x2, z2⟩, ⟨x3, z3⟩⟩ := And.intro (HC3.out.r 0 (by decide)) (And.intro (HC3.out.r 1 (by decide)) (And.intro (HC3.out.r 2 (by decide)) (HC3.out.r 3 (by decide))))
    have r0 := HC3.out.rf 0
    have r1 := HC3.out.rf 1
    have r2 := HC3.out.rf 2
    have r3 := HC3.out.rf 3
    have HDN : Hid (CfHurt _ _ _ _ _ _ _ _) := HC3.out.done HW1.out HW2.out HW3.out HYL.out HYZ.out
    have HQ : Hid (_ ∧ _ ∧ _ ∧ _) := got4 HC3.out.r (.int .i64 (n1)) (.int .i64 (n2)) (.int .i64 (n3)) (.slice ay ys.length cy)
    go_wp2
    refine bodyPost_ret (v := .agg #[.int .i64 (n1), .int .i64 (n2), .int .i64 (n3), .slice ay ys.length cy]) ?_ rfl HDN.out
    obtain ⟨q0, q1, q2, q3⟩ := HQ.out
    unfold put4 at q0 q1 q2 q3
    simp [results, Tryd.results56, go_sem, q0, q1, q2, q3]
  have e3 : ((u : Int) == 3) = false := by simp; omega
  by_cases h4 : u = 4
  · subst h4
    have hCd : Cf2 U F R cb a len cap n1 n2 n3 (.slice av xs.length cv) xs w1.drew := HC1.out.drawn (gdraws (grefl _ _) 1) (HC1.out.rd.draws 1)
    have HN1 : Hid (0 ≤ n1 ∧ n1 ≤ 128) := hn1
    clear hn1
    go_wp2_with fail
    go_region_held3 (fun w' => w'.cell? ⟨cb, 0, none⟩ = some (.int .i64 n1)) (first | with_reducible exact hCd.c0 | with_reducible exact (hCd.put1 _).c0)
      (first | (go_at_call 33; refine (below_pos _ R a len cap hCd.rd 2 (by omega) (by omega)).mono ?_; rintro e wB ⟨u3, rfl, hu3, hrB, hbB⟩; have hC2 := hCd.drawn hbB hrB; clear hCd hrB hbB; have hCd := hC2; clear hC2; have k0 := hCd.c1; have kf := hCd.fr 1))
    all_goals
      have hw1 : IntKind.i64.wrap (n1 - 5) = n1 - 5 := by have := HN1.out; rw [IntKind.wrap_i64]; omega
      have hw2 : IntKind.i64.wrap (n1 - 5 + (u3 : Int)) = n1 - 5 + (u3 : Int) := by have := HN1.out; rw [IntKind.wrap_i64]; omega
      have hwx : (Lit.int .i64 (n1 - 5 + (u3 : Int))).wf = true := wf_i64 _ (by have := HN1.out; omega) (by have := HN1.out; omega)
      first | rw [hw1, hw2] | rw [hw2] | skip
      obtain ⟨x, hx⟩ : ∃ x : Int, x = n1 - 5 + (u3 : Int) := ⟨_, rfl⟩
      rw [← hx] at hwx ⊢
      have HWX : Hid ((Lit.int .i64 x).wf = true) := hwx
      have HC3 : Hid (Cf2 U F R cb a len cap n1 x n3 (.slice av xs.length cv) xs (wB.setCell ⟨cb, 1, none⟩ (.int .i64 x))) := hCd.put1 x
      clear hCd hw1 hw2 hwx hx hu3
      have y0 := HC3.out.c0
      have y1 := HC3.out.c1
      have y2 := HC3.out.c2
      have y3 := HC3.out.c3
      obtain ⟨⟨x0, z0⟩, ⟨x1, z1⟩, ⟨x2, z2⟩, ⟨x3, z3⟩⟩ := And.intro (HC3.out.r 0 (by decide)) (And.intro (HC3.out.r 1 (by decide)) (And.intro (HC3.out.r 2 (by decide)) (HC3.out.r 3 (by decide))))
      have r0 := HC3.out.rf 0
      have r1 := HC3.out.rf 1
      have r2 := HC3.out.rf 2
      have r3 := HC3.out.rf 3
      have HDN : Hid (CfHurt _ _ _ _ _ _ _ _) := HC3.out.done HW1.out HWX.out HW3.out HLZ.out.1 HLZ.out.2
      have HQ : Hid (_ ∧ _ ∧ _ ∧ _) := got4 HC3.out.r (.int .i64 (n1)) (.int .i64 (x)) (.int .i64 (n3)) (.slice av xs.length cv)
      go_wp2
      refine bodyPost_ret (v := .agg #[.int .i64 (n1), .int .i64 (x), .int .i64 (n3), .slice av xs.length cv]) ?_ rfl HDN.out
      obtain ⟨q0, q1, q2, q3⟩ := HQ.out
      unfold put4 at q0 q1 q2 q3
      simp [results, Tryd.results56, go_sem, q0, q1, q2, q3]
  have e4 : ((u : Int) == 4) = false := by simp; omega
  clear h0 h1 h2 h3 h4 hn1
  have y0 := HC1.out.c0
  have y1 := HC1.out.c1
  have y2 := HC1.out.c2
  have y3 := HC1.out.c3
  obtain ⟨⟨x0, z0⟩, ⟨x1, z1⟩, ⟨x2, z2⟩, ⟨x3, z3⟩⟩ := And.intro (HC1.out.r 0 (by decide)) (And.intro (HC1.out.r 1 (by decide)) (And.intro (HC1.out.r 2 (by decide)) (HC1.out.r 3 (by decide))))
  have r0 := HC1.out.rf 0
  have r1 := HC1.out.rf 1
  have r2 := HC1.out.rf 2
  have r3 := HC1.out.rf 3
  have HDN : Hid (CfHurt _ _ _ _ _ _ _ _) := HC1.out.done HW1.out HW2.out HW3.out HLZ.out.1 HLZ.out.2
  have HQ : Hid (_ ∧ _ ∧ _ ∧ _) := got4 HC1.out.r (.int .i64 (n1)) (.int .i64 (n2)) (.int .i64 (n3)) (.slice av xs.length cv)
  go_wp2
  refine bodyPost_ret (v := .agg #[.int .i64 (n1), .int .i64 (n2), .int .i64 (n3), .slice av xs.length cv]) ?_ rfl HDN.out
  obtain ⟨q0, q1, q2, q3⟩ := HQ.out
  unfold put4 at q0 q1 q2 q3
  simp [results, Tryd.results56, go_sem, q0, q1, q2, q3]
/-- What is drawn. -/
def CfDrawn (w : World) (e : Ending) (w' : World) : Prop :=
  ∃ (n1 n2 n3 : Int) (av : Option Addr) (cv : Nat) (ys : List ByteArray), e = .returned (.agg #[.int .i64 n1, .int .i64 n2, .int .i64 n3, .slice av ys.length cv]) ∧ (Lit.int .i64 n1).wf = true ∧ (Lit.int .i64 n2).wf = true ∧ (Lit.int .i64 n3).wf = true ∧ ys.length ≤ 13 ∧ (∀ y ∈ ys, y.size ≤ 26) ∧ (∃ gv, w.heap.size ≤ gv ∧ Txts w' av gv ys) ∧ Below w.heap.size w w'
set_option maxHeartbeats 1000000 in
set_option maxRecDepth 20000 in
theorem draw_configok (w : World) (a : Option Addr) (len cap : Nat) (hs : len ≤ 1048576) (hc : RdCode w w.heap.size a len) :
    Calls Tryd.prog 26 #[.slice a len cap] w fun e w' => CfDrawn w e w' := by
  obtain ⟨V, hV⟩ : ∃ V, V = w.alloc (.cells #[.int .i64 0, .int .i64 0, .int .i64 0, .slice none 0 0] 26) := ⟨_, rfl⟩
  have HV : Hid (V = w.alloc (.cells #[.int .i64 0, .int .i64 0, .int .i64 0, .slice none 0 0] 26)) := hV
  have hVS : V.heap.size = w.heap.size + 1 := by rw [hV]; simp
  have hVB : Below w.heap.size w V := by rw [hV]; exact (Below.refl _ _).alloc (Nat.le_refl _) _
  have HVS : Hid (V.heap.size = w.heap.size + 1) := hVS
  have HVB : Hid (Below w.heap.size w V) := hVB
  have HVC : Hid (∀ i, i < 4 → (∃ v, V.cell? ⟨w.heap.size, i, none⟩ = some v) ∧ V.frozen? ⟨w.heap.size, i, none⟩ = false) := fun i hi => by
    rw [hV, World.cell?_alloc_new]
    exact ⟨⟨_, Array.getElem?_eq_getElem (by simpa using hi)⟩, World.frozen?_alloc_new _ _ _ _⟩
  have HC : Hid (RdCode V V.heap.size a len) := hc.below hVB (by rw [hVS]; omega)
  clear hc hV hVS hVB
  go_enter Tryd.func26, Tryd.ntmps26
  go_wp2_with (rw [← HV.out])
  refine (open_any V a len cap hs HC.out).mono ?_
  rintro e w1 ⟨rfl, hr1, hb1⟩
  have HB1 : Hid (Below V.heap.size V w1) := hb1
  obtain ⟨R, hR⟩ : ∃ R, R = V.heap.size := ⟨_, rfl⟩
  rw [← hR] at hr1 ⊢
  have HRE : Hid (R = V.heap.size) := hR
  have HR1 : Hid (Rd w1 R a len cap) := hr1
  have HRS : Hid (R < w1.heap.size) := hr1.size
  clear hr1 hb1 hR
  go_wp2_with fail
  refine (config_any w1 R a len cap HR1.out).mono ?_
  rintro e w2 ⟨⟨n1, n2, n3, v, rfl, hbd, xs, hx1, hx3, hxz, hown, hr2, hg2⟩, _⟩
  obtain ⟨av, gv, cv, rfl, _, _⟩ := txts_of_row hown
  have HG2 : Hid (w1.grownBy w2 (some R)) := hg2
  have HCH : Hid (Calls _ _ _ w2 _) := hurt_config w2 R a len cap hr2 w1 w1.heap.size HRS.out (Nat.le_refl _) hg2.size hg2 n1 n2 n3 ⟨hbd.1, hbd.2.1⟩ ⟨hbd.2.2.1, hbd.2.2.2.1⟩ hbd.2.2.2.2 _ xs hx1 hx3 hxz hown
  clear hown hr2 hg2 hbd hx1 hx3 hxz
  go_wp2_with fail
  refine HCH.out.mono ?_
  rintro e w3 ⟨m1, m2, m3, v, rfl, hw1, hw2, hw3, ys, hyl, hyz, hown, hr3, hg3⟩
  obtain ⟨aw, gw, cw, rfl, hgw, htw⟩ := txts_of_row hown
  have HB3 : Hid (Below V.heap.size V w3) := below_of HB1.out hg3 (by rw [HRE.out]; exact Nat.le_refl _) HB1.out.size
  have HTW : Hid (Txts w3 aw gw ys) := htw
  have HGW : Hid (w.heap.size < gw) := by have h1 := HVS.out; have h2 := HB1.out.size; show w.heap.size < gw; omega
  have HW : Hid ((Lit.int .i64 m1).wf = true ∧ (Lit.int .i64 m2).wf = true ∧ (Lit.int .i64 m3).wf = true ∧ ys.length ≤ 13 ∧ ∀ y ∈ ys, y.size ≤ 26) := ⟨hw1, hw2, hw3, hyl, hyz⟩
  have HK : Hid (∀ i, i < 4 → (∃ v, w3.cell? ⟨w.heap.size, i, none⟩ = some v) ∧ w3.frozen? ⟨w.heap.size, i, none⟩ = false) := fun i hi => by
    obtain ⟨⟨v, hv⟩, hf⟩ := HVC.out i hi
    have hlt : w.heap.size < V.heap.size := by rw [HVS.out]; omega
    exact ⟨⟨v, by rw [HB3.out.cell (p := ⟨w.heap.size, i, none⟩) hlt]; exact hv⟩, by rw [HB3.out.frozen (p := ⟨w.heap.size, i, none⟩) hlt]; exact hf⟩
  obtain ⟨⟨⟨x0, z0⟩, r0⟩, ⟨⟨x1, z1⟩, r1⟩, ⟨⟨x2, z2⟩, r2⟩, ⟨⟨x3, z3⟩, r3⟩⟩ := And.intro (HK.out 0 (by decide)) (And.intro (HK.out 1 (by decide)) (And.intro (HK.out 2 (by decide)) (HK.out 3 (by decide))))
  have HQ : Hid (_ ∧ _ ∧ _ ∧ _) := got4 (fun i hi => (HK.out i hi).1) (.int .i64 m1) (.int .i64 m2) (.int .i64 m3) (.slice aw ys.length cw)
  have HE : Hid (Below w.heap.size w (put4 w3 w.heap.size (.int .i64 m1) (.int .i64 m2) (.int .i64 m3) (.slice aw ys.length cw)) ∧ Txts (put4 w3 w.heap.size (.int .i64 m1) (.int .i64 m2) (.int .i64 m3) (.slice aw ys.length cw)) aw gw ys) := by
    refine ⟨?_, HTW.out.grown (r := w.heap.size) (grown_trans (grown_trans (grown_trans (grown_set _ _ _ _) (grown_set _ _ _ _)) (grown_set _ _ _ _)) (grown_set _ _ _ _)) (fun _ => by have := HGW.out; omega)⟩
    have h0 : Below w.heap.size w w3 := HVB.out.trans (HB3.out.mono HVB.out.size)
    exact (((h0.setCell (p := ⟨w.heap.size, 0, none⟩) (Nat.le_refl _) _).setCell (p := ⟨w.heap.size, 1, none⟩) (Nat.le_refl _) _).setCell (p := ⟨w.heap.size, 2, none⟩) (Nat.le_refl _) _).setCell (p := ⟨w.heap.size, 3, none⟩) (Nat.le_refl _) _
  clear hown hr3 hg3 htw hgw hw1 hw2 hw3 hyl hyz
  go_wp2
  refine bodyPost_ret (v := .agg #[.int .i64 m1, .int .i64 m2, .int .i64 m3, .slice aw ys.length cw]) ?_ rfl ⟨m1, m2, m3, aw, cw, ys, rfl, HW.out.1, HW.out.2.1, HW.out.2.2.1, HW.out.2.2.2.1, HW.out.2.2.2.2, ⟨gw, by have := HGW.out; omega, HE.out.2⟩, HE.out.1⟩
  obtain ⟨q0, q1, q2, q3⟩ := HQ.out
  unfold put4 at q0 q1 q2 q3
  simp [results, Tryd.results26, go_sem, q0, q1, q2, q3]
end Go.Proofs.YtpkdkkjdlhillaaDoor.rd
