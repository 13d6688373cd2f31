/-
  Nurseries that are handed in, and in variables: what they read as; their size, their copies, their likes, their marks.
-/
import Derived.Test.YtngpmohmnpbcnaaStrsOpen
import Derived.Test.YtngpmohmnpbcnaaIntsOpen
import Derived.Test.YtngpmohmnpbcnaaObjOpen
import Derived.Test.YtngpmohmnpbcnaaTxt
import Derived.Lib.SmallJoins
namespace Go.Proofs.Ytngpmohmnpbcnaa.nu
open Go.RowKit Go.ChangeShapes Go.WideShapes Go.ChangeAt Go.Joins Go.Deep
open kinds ints obj txt

theorem txts_of {w : World} {g : Nat} {xs : List ByteArray} (h1 : Strs w (some ⟨g, 0, none⟩) xs) (h2 : SRow w g xs.length) : Txts w (some ⟨g, 0, none⟩) g xs := fun i hi => by
  obtain ⟨b, off, e, h⟩ := h1 i hi
  simp at e
  obtain ⟨rfl, rfl⟩ := e
  rw [Nat.zero_add] at h
  exact ⟨rfl, h, (h2 i hi).2⟩
set_option maxRecDepth 100000 in
theorem nur_of {H : Type} {enc : TypeId × Value → H} {W : World} {r : Reach} {b0 : Nat} {base : Nat} {sp : Nat → Bool} {held : Bool} {v : Value} {d : DataW H} {p : List MemPlace}
    (hv : Value.okWide Try.prog W r b0 25 v) (h : DataW.Trod enc Try.prog W base sp held 25 v d p) :
    ∃ (t : Int) (b : Option Addr) (vc : Nat) (vs : List Int), v = .agg #[.int .i64 t, .slice b vs.length vc] ∧ (Lit.int .i64 t).wf = true ∧ Nums W b vs ∧ vs.length ≤ maxLen ∧ ∀ x ∈ vs, (Lit.int .i64 x).wf = true := by
  obtain ⟨c0, c1, y0, y1, n, rfl, rfl, rfl, h0, h1⟩ := open_agg2 Try.underlying25 (by kernel_rfl) (by kernel_rfl) hv h
  obtain ⟨t, e0, _, w1⟩ := DataW.trod_int Try.underlying2 (show DataW.trod enc Try.prog W base sp held n 2 [c0] = some y0 from h0)
  obtain ⟨b, vc, vs, e1, hm, hl, hw⟩ := nums_cells (show DataW.trod enc Try.prog W base sp held n 23 [c1] = some y1 from h1)
  simp at e0 e1
  subst e0 e1
  exact ⟨t, b, vc, vs, rfl, w1, hl, hm, hw⟩
theorem szNur_any (w : World) (t : Int) (b : Option Addr) (vc : Nat) (vs : List Int) (left : Int) (h0 : 0 ≤ left) (h1 : left ≤ 1048576) (hm : vs.length ≤ maxLen) :
    Calls Try.prog 9 #[.agg #[.int .i64 t, .slice b vs.length vc], .int .i64 left] w fun e w' => ∃ r : Int, e = .returned (.int .i64 r) ∧ -1 ≤ r ∧ r ≤ 1048576 ∧ (0 ≤ r → vs.length ≤ 1048576) ∧ Below w.heap.size w w' := by
  unfold maxLen at hm
  have HS : Hid (∀ w, Calls Try.prog 36 #[.slice b vs.length vc, .int .i64 left] w fun e w' => ∃ r : Int, e = .returned (.int .i64 r) ∧ -1 ≤ r ∧ r ≤ 1048576 ∧ (0 ≤ r → vs.length ≤ 1048576) ∧ w' = w) := fun w => by
    by_cases hn : left - (vs.length : Int) < 0
    · go_enter Try.func36, Try.ntmps36
      go_wp2
      go_ret
      exact ⟨-1, rfl, by omega, by omega, by omega, rfl⟩
    · go_enter Try.func36, Try.ntmps36
      go_wp2
      go_ret
      exact ⟨left - (vs.length : Int), rfl, by omega, by omega, by omega, rfl⟩
  clear hm
  obtain ⟨W, hW⟩ : ∃ W, W = w.alloc (.cells #[.int .i64 t, .slice b vs.length vc] 25) := ⟨_, rfl⟩
  have HW : Hid (W = w.alloc (.cells #[.int .i64 t, .slice b vs.length vc] 25)) := hW
  have HB0 : Hid (Below w.heap.size w W) := by
    show Below _ _ _
    rw [hW]; exact (Below.refl _ _).alloc (Nat.le_refl _) _
  clear hW
  go_enter Try.func9, Try.ntmps9
  go_wp2_with fail
  rw [← HW.out]
  refine (HS.out _).mono ?_
  rintro e w1 ⟨r, rfl, hr0, hr1, hr2, rfl⟩
  have HR : Hid (0 ≤ r → vs.length ≤ 1048576) := hr2
  clear hr2
  by_cases hneg : r < 0
  · go_wp2
    go_ret
    exact ⟨-1, rfl, by omega, by omega, by omega, HB0.out⟩
  · go_wp2
    go_ret
    exact ⟨r, rfl, hr0, hr1, HR.out, HB0.out⟩
set_option maxHeartbeats 1000000 in
theorem toNur_any (w : World) (t : Int) (b : Option Addr) (vc : Nat) (vs : List Int) (hn : vs.length ≤ 1048576) (hl : Nums w b vs) :
    Calls Try.prog 12 #[.agg #[.int .i64 t, .slice b vs.length vc]] w fun e w' => ∃ g : Nat, e = .returned (.agg #[.int .i64 t, .slice (some ⟨g, 0, none⟩) vs.length vs.length]) ∧ w.heap.size ≤ g ∧ g < w'.heap.size ∧ Ints w' (some ⟨g, 0, none⟩) g vs ∧ Below w.heap.size w w' := by
  have HL : Hid (Nums w b vs) := hl
  clear hl
  obtain ⟨W, hW⟩ : ∃ W, W = ((w.alloc (.cells #[.int .i64 t, .slice b vs.length vc] 25)).alloc (.cells #[.int .i64 0, .slice none 0 0] 31)).alloc (.cells #[.int .i64 t, .slice none 0 0] 31) := ⟨_, rfl⟩
  have HB0 : Hid (Below w.heap.size w W) := by
    have h1 : Below w.heap.size w W := by rw [hW]; go_grown
    exact h1
  have hsz : W.heap.size = w.heap.size + 3 := by rw [hW]; simp
  have f1 : ∀ o, W.cell? ⟨w.heap.size + 1, o, none⟩ = (#[Value.int .i64 0, .slice none 0 0] : Array Value)[o]? := fun o => by
    rw [hW, World.cell?_alloc_past _ _ _ (by simp), World.cell?_alloc_at _ _ _ _ (by simp)]
  have f2 : ∀ o, W.cell? ⟨w.heap.size + 1 + 1, o, none⟩ = (#[Value.int .i64 t, .slice none 0 0] : Array Value)[o]? := fun o => by
    rw [hW, World.cell?_alloc_at _ _ _ _ (by simp)]
  have z1 : ∀ o, W.frozen? ⟨w.heap.size + 1, o, none⟩ = false := fun o => by rw [hW, World.frozen?_alloc_past _ _ _ (by simp), World.frozen?_alloc_at _ _ _ _ (by simp)]
  have z2 : ∀ o, W.frozen? ⟨w.heap.size + 1 + 1, o, none⟩ = false := fun o => by rw [hW, World.frozen?_alloc_at _ _ _ _ (by simp)]
  have HW : Hid (W = ((w.alloc (.cells #[.int .i64 t, .slice b vs.length vc] 25)).alloc (.cells #[.int .i64 0, .slice none 0 0] 31)).alloc (.cells #[.int .i64 t, .slice none 0 0] 31)) := hW
  clear hW
  have F1 : Hid (∀ o, W.cell? ⟨w.heap.size + 1, o, none⟩ = (#[Value.int .i64 0, .slice none 0 0] : Array Value)[o]?) := f1
  have F2 : Hid (∀ o, W.cell? ⟨w.heap.size + 1 + 1, o, none⟩ = (#[Value.int .i64 t, .slice none 0 0] : Array Value)[o]?) := f2
  have Z1 : Hid (∀ o, W.frozen? ⟨w.heap.size + 1, o, none⟩ = false) := z1
  have Z2 : Hid (∀ o, W.frozen? ⟨w.heap.size + 1 + 1, o, none⟩ = false) := z2
  have HSZ : Hid (W.heap.size = w.heap.size + 3) := hsz
  clear f1 f2 z1 z2 hsz
  go_enter Try.func12, Try.ntmps12
  go_wp2_with fail
  rw [← HW.out]
  refine (toInt64S_any W b vc vs hn (HL.out.below HB0.out)).mono ?_
  rintro e w2 ⟨g, rfl, hg, hg2, hl2, hb2⟩
  have hsz := HSZ.out
  have c1 : ∀ o, w2.cell? ⟨w.heap.size + 1, o, none⟩ = W.cell? ⟨w.heap.size + 1, o, none⟩ := fun o => hb2.cell (p := ⟨w.heap.size + 1, o, none⟩) (by show w.heap.size + 1 < _; omega)
  have c2 : ∀ o, w2.cell? ⟨w.heap.size + 1 + 1, o, none⟩ = W.cell? ⟨w.heap.size + 1 + 1, o, none⟩ := fun o => hb2.cell (p := ⟨w.heap.size + 1 + 1, o, none⟩) (by show w.heap.size + 1 + 1 < _; omega)
  have d1 : ∀ o, w2.frozen? ⟨w.heap.size + 1, o, none⟩ = W.frozen? ⟨w.heap.size + 1, o, none⟩ := fun o => hb2.frozen (p := ⟨w.heap.size + 1, o, none⟩) (by show w.heap.size + 1 < _; omega)
  have d2 : ∀ o, w2.frozen? ⟨w.heap.size + 1 + 1, o, none⟩ = W.frozen? ⟨w.heap.size + 1 + 1, o, none⟩ := fun o => hb2.frozen (p := ⟨w.heap.size + 1 + 1, o, none⟩) (by show w.heap.size + 1 + 1 < _; omega)
  have r0 : w2.cell? ⟨w.heap.size + 1, 0, none⟩ = some (.int .i64 0) := by rw [c1, F1.out]; rfl
  have r1 : w2.cell? ⟨w.heap.size + 1, 1, none⟩ = some (.slice none 0 0) := by rw [c1, F1.out]; rfl
  have o0 : w2.cell? ⟨w.heap.size + 1 + 1, 0, none⟩ = some (.int .i64 t) := by rw [c2, F2.out]; rfl
  have o1 : w2.cell? ⟨w.heap.size + 1 + 1, 1, none⟩ = some (.slice none 0 0) := by rw [c2, F2.out]; rfl
  have y0 : w2.frozen? ⟨w.heap.size + 1, 0, none⟩ = false := by rw [d1, Z1.out]
  have y1 : w2.frozen? ⟨w.heap.size + 1, 1, none⟩ = false := by rw [d1, Z1.out]
  have x1 : w2.frozen? ⟨w.heap.size + 1 + 1, 1, none⟩ = false := by rw [d2, Z2.out]
  have HL2 : Hid (Ints w2 (some ⟨g, 0, none⟩) g vs) := hl2
  have HB2 : Hid (Below w.heap.size w w2) := HB0.out.trans (hb2.mono HB0.out.size)
  have hg3 : w.heap.size + 3 ≤ g := by omega
  have hch := fun S => two_set (w := w2) (b := w.heap.size + 1) (c := w.heap.size + 1 + 1) (by omega) r0 r1 S (.int .i64 t) S
  have q0 := fun S => (hch S).1
  have q1 := fun S => (hch S).2
  clear c1 c2 d1 d2 hl2 hb2 hg hch hsz
  go_wp2
  refine bodyPost_ret (v := .agg #[.int .i64 t, .slice (some ⟨g, 0, none⟩) vs.length vs.length]) (by simp [results, Try.results12, go_sem, q0, q1]) rfl ?_
  refine ⟨g, rfl, by omega, by simpa using hg2, ?_, ?_⟩
  · exact ((HL2.out.grown (grown_set _ _ _ _) (by omega)).grown (grown_set _ _ _ _) (by omega)).grown (grown_set _ _ _ _) (by omega)
  · exact ((HB2.out.setCell (p := ⟨w.heap.size + 1 + 1, 1, none⟩) (by show w.heap.size ≤ w.heap.size + 1 + 1; omega) _).setCell (p := ⟨w.heap.size + 1, 0, none⟩) (by show w.heap.size ≤ w.heap.size + 1; omega) _).setCell (p := ⟨w.heap.size + 1, 1, none⟩) (by show w.heap.size ≤ w.heap.size + 1; omega) _
set_option maxHeartbeats 1000000 in
theorem eqNur_same (w : World) (t : Int) (a b : Option Addr) (g h n ca cb : Nat) (vs : List Int) (hx : vs.length = n) (hn : vs.length ≤ 1048576) (ha : Ints w a g vs) (hb : Ints w b h vs) :
    Calls Try.prog 17 #[.agg #[.int .i64 t, .slice a n ca], .agg #[.int .i64 t, .slice b n cb]] w fun e w' => e = .returned (.bool true) ∧ Below w.heap.size w w' := by
  subst hx
  have HA : Hid (∀ w', Below w.heap.size w w' → Ints w' a g vs) := fun w' q => ha.below q
  have HBb : Hid (∀ w', Below w.heap.size w w' → Ints w' b h vs) := fun w' q => hb.below q
  obtain ⟨W, hW⟩ : ∃ W, W = (w.alloc (.cells #[.int .i64 t, .slice a vs.length ca] 31)).alloc (.cells #[.int .i64 t, .slice b vs.length cb] 31) := ⟨_, rfl⟩
  have HW : Hid (W = (w.alloc (.cells #[.int .i64 t, .slice a vs.length ca] 31)).alloc (.cells #[.int .i64 t, .slice b vs.length cb] 31)) := hW
  have hb0 : Below w.heap.size w W := by rw [hW]; exact ((Below.refl _ _).alloc (Nat.le_refl _) _).alloc (by simp) _
  have HB0 : Hid (Below w.heap.size w W) := hb0
  have x1 : (t != t) = false := by simp
  clear ha hb hW hb0
  go_enter Try.func17, Try.ntmps17
  go_wp2_with fail
  rw [← HW.out]
  refine (eqInt64S_same W a b g h ca cb vs hn (HA.out W HB0.out) (HBb.out W HB0.out)).mono ?_
  rintro e w' ⟨rfl, hb⟩
  have HB1 : Hid (Below w.heap.size w w') := HB0.out.trans (hb.mono HB0.out.size)
  clear hb
  go_wp2
  go_ret
  exact ⟨rfl, HB1.out⟩
theorem markNur_any (w : World) (t : Int) (a : Option Addr) (g n cap : Nat) (xs : List Int) (k : Nat) (hxs : xs.length = n) (ha : Ints w a g xs) (hn : n ≤ 1048576) (hk1 : k ≤ 4194304) :
    Calls Try.prog 19 #[.agg #[.int .i64 t, .slice a n cap], .int .i64 (k : Int)] w fun e w' => e = .returned (.int .i64 ((k + n : Nat) : Int)) ∧ w.grownBy w' (some g) ∧ Ints w' a g (marks k n) := by
  obtain ⟨W, hW⟩ : ∃ W, W = w.alloc (.cells #[.int .i64 t, .slice a n cap] 31) := ⟨_, rfl⟩
  have HW : Hid (W = w.alloc (.cells #[.int .i64 t, .slice a n cap] 31)) := hW
  have hb0 : Below w.heap.size w W := by rw [hW]; exact (Below.refl _ _).alloc (Nat.le_refl _) _
  have HM : Hid (∀ w', w' = W → _) := fun w' q => markInt64S_any w' a g n cap xs k hxs (q ▸ ha.below hb0) hn hk1
  have HG : Hid (w.grownBy W (some g)) := grown_below _ hb0
  obtain ⟨km, hkm⟩ : ∃ km : Int, km = ((k + n : Nat) : Int) := ⟨_, rfl⟩
  rw [← hkm] at HM ⊢
  clear hW ha hb0 hkm
  go_enter Try.func19, Try.ntmps19
  go_wp2_with fail
  rw [← HW.out]
  refine (HM.out W rfl).mono ?_
  rintro e w' ⟨rfl, hg, htx⟩
  have HG1 : Hid (w.grownBy w' (some g)) := grown_trans HG.out hg
  have HT : Hid (Ints w' a g (marks k n)) := htx
  clear hg htx
  go_wp2
  go_ret
  exact ⟨rfl, HG1.out, HT.out⟩
theorem heldNur_any (w : World) (t : Int) (a : Option Addr) (g n cap : Nat) (k : Nat) (ha : Ints w a g (marks k n)) (hn : n ≤ 1048576) (hk1 : k ≤ 4194304) :
    Calls Try.prog 24 #[.agg #[.int .i64 t, .slice a n cap], .int .i64 (k : Int)] w fun e w' => e = .returned (.int .i64 ((k + n : Nat) : Int)) ∧ Below w.heap.size w w' := by
  obtain ⟨W, hW⟩ : ∃ W, W = w.alloc (.cells #[.int .i64 t, .slice a n cap] 31) := ⟨_, rfl⟩
  have HW : Hid (W = w.alloc (.cells #[.int .i64 t, .slice a n cap] 31)) := hW
  have hb0 : Below w.heap.size w W := by rw [hW]; exact (Below.refl _ _).alloc (Nat.le_refl _) _
  have HM : Hid (∀ w', w' = W → _) := fun w' q => heldInt64S_any w' a g n cap k (q ▸ ha.below hb0) hn hk1
  have HB0 : Hid (Below w.heap.size w W) := hb0
  obtain ⟨km, hkm⟩ : ∃ km : Int, km = ((k + n : Nat) : Int) := ⟨_, rfl⟩
  have hk2 : ¬ km < 0 := by omega
  rw [← hkm] at HM ⊢
  clear hW ha hb0 hkm
  go_enter Try.func24, Try.ntmps24
  go_wp2_with fail
  rw [← HW.out]
  refine (HM.out W rfl).mono ?_
  rintro e w' ⟨rfl, hb⟩
  have HB1 : Hid (Below w.heap.size w w') := HB0.out.trans (hb.mono HB0.out.size)
  clear hb
  go_wp2
  go_ret
  exact ⟨rfl, HB1.out⟩
/-- An object in a variable of its own. -/
structure OVar (b : Nat) (t : Int) (a : Option Addr) (g n cap : Nat) (xs : List Int) (w : World) : Prop where
  c0 : w.cell? ⟨b, 0, none⟩ = some (.int .i64 t)
  c1 : w.cell? ⟨b, 1, none⟩ = some (.slice a n cap)
  len : xs.length = n
  tx : Ints w a g xs
theorem OVar.lt {b : Nat} {t : Int} {a : Option Addr} {g n cap : Nat} {xs : List Int} {w : World} (h : OVar b t a g n cap xs w) : b < w.heap.size := World.block_lt_of_cell? w _ h.c0
theorem OVar.below {b : Nat} {t : Int} {a : Option Addr} {g n cap : Nat} {xs : List Int} {w w' : World} (h : OVar b t a g n cap xs w) (hb : Below w.heap.size w w') : OVar b t a g n cap xs w' :=
  ⟨by rw [hb.cell (p := ⟨b, 0, none⟩) h.lt]; exact h.c0, by rw [hb.cell (p := ⟨b, 1, none⟩) h.lt]; exact h.c1, h.len, h.tx.below hb⟩
theorem OVar.grown {b : Nat} {t : Int} {a : Option Addr} {g n cap r : Nat} {xs : List Int} {w w' : World} (h : OVar b t a g n cap xs w) (hg : w.grownBy w' (some r)) (hr : b ≠ r) (hne : 0 < xs.length → g ≠ r) : OVar b t a g n cap xs w' := by
  have hbk := hg.block b h.lt (fun q => hr (Option.some.inj q))
  exact ⟨by rw [World.cell?_of_block (a := ⟨b, 0, none⟩) hbk]; exact h.c0, by rw [World.cell?_of_block (a := ⟨b, 1, none⟩) hbk]; exact h.c1, h.len, h.tx.grown2 hg hne⟩
theorem OVar.start (w : World) (t : Int) (a : Option Addr) (g n cap : Nat) (xs : List Int) (T : TypeId) (hl : xs.length = n) (h : Ints w a g xs) : OVar w.heap.size t a g n cap xs (w.alloc (.cells #[.int .i64 t, .slice a n cap] T)) :=
  ⟨by rw [World.cell?_alloc_new]; rfl, by rw [World.cell?_alloc_new]; rfl, hl, h.below ((Below.refl _ _).alloc (Nat.le_refl _) _)⟩
theorem OVar.marked {b : Nat} {t : Int} {a : Option Addr} {g r n cap : Nat} {xs ys : List Int} {w w' : World} (h : OVar b t a g n cap xs w) (hg : w.grownBy w' (some r)) (hr : b ≠ r) (hl : ys.length = n) (ht : Ints w' a r ys) : OVar b t a r n cap ys w' := by
  have hbk := hg.block b h.lt (fun q => hr (Option.some.inj q))
  exact ⟨by rw [World.cell?_of_block (a := ⟨b, 0, none⟩) hbk]; exact h.c0, by rw [World.cell?_of_block (a := ⟨b, 1, none⟩) hbk]; exact h.c1, hl, ht⟩
theorem OVar.block {b : Nat} {t : Int} {a : Option Addr} {g n cap : Nat} {xs : List Int} {w : World} (h : OVar b t a g n cap xs w) (B : Nat) (hB : B ≤ g) (hw : B ≤ w.heap.size) : ∃ r, Ints w a r xs ∧ B ≤ r ∧ ∀ k, k < w.heap.size → (0 < xs.length → k ≠ g) → k ≠ r := by
  by_cases h0 : 0 < xs.length
  · exact ⟨g, h.tx, hB, fun k _ q => q h0⟩
  · exact ⟨w.heap.size, fun i hi => by omega, hw, fun k q _ => by omega⟩
structure Pair (w : World) (W : World) : Prop where
  below : Below w.heap.size w W
  lt : w.heap.size < W.heap.size
  cell : ∀ k v, #[Value.int .i64 0, .slice none 0 0][k]? = some v → W.cell? ⟨w.heap.size, k, none⟩ = some v
  free : ∀ k, W.frozen? ⟨w.heap.size, k, none⟩ = false
theorem Pair.later {w W w' : World} (h : Pair w W) (hb : Below W.heap.size W w') : Pair w w' where
  below := h.below.trans (hb.mono h.below.size)
  lt := Nat.lt_of_lt_of_le h.lt hb.size
  cell := fun k v q => by rw [hb.cell (p := ⟨w.heap.size, k, none⟩) h.lt]; exact h.cell k v q
  free := fun k => by rw [hb.frozen (p := ⟨w.heap.size, k, none⟩) h.lt]; exact h.free k
theorem Pair.start (w : World) (T : TypeId) : Pair w (w.alloc (.cells #[.int .i64 0, .slice none 0 0] T)) where
  below := (Below.refl _ _).alloc (Nat.le_refl _) _
  lt := by simp
  cell := fun k v h => by rw [World.cell?_alloc_new]; exact h
  free := fun k => World.frozen?_alloc_new _ _ _ _
theorem Pair.put {w W : World} (h : Pair w W) (x0 x1 : Value) : Below w.heap.size w ((W.setCell ⟨w.heap.size, 0, none⟩ x0).setCell ⟨w.heap.size, 1, none⟩ x1) :=
  (h.below.setCell (p := ⟨w.heap.size, 0, none⟩) (Nat.le_refl _) x0).setCell (p := ⟨w.heap.size, 1, none⟩) (Nat.le_refl _) x1
theorem two_put {w : World} {b : Nat} {v0 v1 : Value} (h0 : w.cell? ⟨b, 0, none⟩ = some v0) (h1 : w.cell? ⟨b, 1, none⟩ = some v1) (x0 x1 : Value) :
    ((w.setCell ⟨b, 0, none⟩ x0).setCell ⟨b, 1, none⟩ x1).cell? ⟨b, 0, none⟩ = some x0 ∧ ((w.setCell ⟨b, 0, none⟩ x0).setCell ⟨b, 1, none⟩ x1).cell? ⟨b, 1, none⟩ = some x1 := by
  have ne : ∀ i j : Nat, i ≠ j → (⟨b, i, none⟩ : Addr) ≠ ⟨b, j, none⟩ := fun i j h q => h (by simpa using congrArg Addr.off q)
  refine ⟨?_, ?_⟩
  · rw [World.cell?_setCell_other _ _ _ _ (ne 1 0 (by omega))]
    exact World.cell?_setCell_same _ _ _ h0
  · exact World.cell?_setCell_same _ _ _ (by rw [World.cell?_setCell_other _ _ _ _ (ne 0 1 (by omega))]; exact h1)
theorem ovar_put {wT wR : World} {t : Int} {aR : Option Addr} {gR n kR : Nat} {vs : List Int} (hP : Pair wT wR) (hin : Ints wR aR gR vs) (hg : wT.heap.size < gR) (hl : vs.length = n) : OVar wT.heap.size t aR gR n kR vs ((wR.setCell ⟨wT.heap.size, 0, none⟩ (.int .i64 t)).setCell ⟨wT.heap.size, 1, none⟩ (.slice aR n kR)) := by
  obtain ⟨q0, q1⟩ := two_put (hP.cell 0 _ rfl) (hP.cell 1 _ rfl) (.int .i64 t) (.slice aR n kR)
  exact ⟨q0, q1, hl, (hin.grown (grown_set _ _ _ _) (by omega)).grown (grown_set _ _ _ _) (by omega)⟩
end Go.Proofs.Ytngpmohmnpbcnaa.nu
