/-
  What is drawn for Forwarded: types, an object, and two slices of numbers that grow in turn.
-/
import Derived.Test.YtnacdfoejmjlgaaDrawObj
import Derived.Deep.WholeRow
namespace Go.Proofs.Ytnacdfoejmjlgaa.rd
open Go.RowKit
open txt ints

/-- Two rows of one's own that share no block. -/
structure Two (F : Nat) (fv : Value) (fs : List Int) (qv : Value) (qs : List Int) (wr : World) : Prop where
  f : wr.ownsRow F 2 1 fv fs.length (fs.map (Value.int .i64))
  q : wr.ownsRow F 2 1 qv qs.length (qs.map (Value.int .i64))
  ne : ∀ b, fv.ownBlock = some b → qv.ownBlock = some b → False
theorem Two.symm {F : Nat} {fv qv : Value} {fs qs : List Int} {wr : World} (h : Two F fv fs qv qs wr) : Two F qv qs fv fs wr := ⟨h.q, h.f, fun b x y => h.ne b y x⟩
theorem Two.drawn {F R : Nat} {fv qv : Value} {fs qs : List Int} {wr w' : World} (h : Two F fv fs qv qs wr) (hg : wr.grownBy w' (some R)) (hR : R < F) : Two F fv fs qv qs w' := ⟨own_rdT h.f hg hR, own_rdT h.q hg hR, h.ne⟩
theorem Two.start (w : World) : Two w.heap.size (.slice (some ⟨w.heap.size, 0, none⟩) 0 0) [] (.slice (some ⟨w.heap.size + 1, 0, none⟩) 0 0) [] ((w.alloc (.cells #[] 2)).alloc (.cells #[] 2)) := by
  have h1 : (w.alloc (.cells #[] 2)).ownsRow w.heap.size 2 1 (.slice (some ⟨w.heap.size, 0, none⟩) 0 0) 0 [] := ⟨rfl, .inr ⟨w.heap.size, 0, #[], rfl, Nat.le_refl _, heap_alloc_last w _, Nat.le_refl _, Nat.zero_le _, rfl, rfl⟩⟩
  have hs : (w.alloc (.cells #[] 2)).heap.size = w.heap.size + 1 := by simp
  have h2 := heap_alloc_last (w.alloc (.cells #[] 2)) (.cells #[] 2)
  rw [hs] at h2
  refine ⟨h1.alloc _, ⟨rfl, .inr ⟨w.heap.size + 1, 0, #[], rfl, Nat.le_succ _, h2, Nat.le_refl _, Nat.zero_le _, rfl, rfl⟩⟩, fun b x y => ?_⟩
  have e1 : w.heap.size = b := by simpa [Value.ownBlock] using x
  have e2 : w.heap.size + 1 = b := by simpa [Value.ownBlock] using y
  omega
theorem wpList_pushF {ops : Array Oper} {rest : List Oper} {o : Oper} {a : Act} {Q : Exit → Act → World → Prop} (X : World) (hgd : o.guard = none) (s x : Operand)
    (ho : o.op = .call { callee := .builtin .append, args := #[s, x], argTypes := #[25, 25] }) (base : Nat) (v : Value) (xs : List Int) (y : Int) (qv : Value) (qs : List Int)
    (hT : Two base v xs qv qs X) (hs : a.eval s = v) (hx : a.eval x = .slice (some ⟨X.heap.size, 0, none⟩) 1 1) (hn : xs.length ≤ 1048576) (hbase : base ≤ X.heap.size)
    (h : ∀ g cap w', Two base (.slice (some ⟨g, 0, none⟩) (xs.length + 1) cap) (xs ++ [y]) qv qs w' → Below base X w' → base ≤ w'.heap.size → wpList Try.prog ops Q rest (a.put o.dst (.slice (some ⟨g, 0, none⟩) (xs.length + 1) cap)) w') :
    wpList Try.prog ops Q (o :: rest) a (X.alloc (.cells #[.int .i64 y] 2)) := by
  obtain ⟨i0, hi, hzz⟩ := Option.map_eq_some_iff.1 infoInt64
  simp only [Prod.mk.injEq] at hzz
  obtain ⟨hz0, hz1, hz2⟩ := hzz
  have hown := hT.f
  refine wpList_append_lies _ hgd s x 25 ho base 2 i0 (.int .i64 0) 1 8 Try.underlying25 hi hz0 hz1 hz2 rfl (by decide) v xs.length _ hs (hown.alloc _) ⟨X.heap.size, 0, none⟩ 1 1 [.int .i64 y] hx rfl ?_ ?_ (by decide) ?_ ?_ ?_ _ rfl ?_
  · intro j u hj
    match j, hj with
    | 0, hj => simp at hj; subst hj; rw [show (⟨X.heap.size, 0, none⟩ : Addr).add 0 = ⟨X.heap.size, 0, none⟩ from rfl, World.cell?_alloc_new]; rfl
  · intro u hu; simp at hu; subst hu; rfl
  · unfold maxLen; omega
  · omega
  · simp; omega
  · intro g cap w' hown' hgrow hat hlt
    have hb : Below base X w' := own_step (hown.alloc _) ((Below.refl _ _).alloc hbase _) (by simp; omega) hgrow
    refine h g cap w' ⟨by simpa using hown', (hT.q.alloc _).kept hgrow ?_, fun b e1 e2 => ?_⟩ hb (Nat.le_trans hbase hb.size)
    · cases hq : qv.ownBlock with
      | none => exact .inl rfl
      | some b => exact .inr (fun e => hT.ne b e.symm hq)
    · have e3 : g = b := by simpa [Value.ownBlock] using e1
      subst e3
      rcases hat with e | e
      · exact hT.ne g e e2
      · have := (hT.q.lt g e2).2
        simp at e
        omega
theorem gBF {U X w' : World} {R F : Nat} (hU : F = U.heap.size) (h : U.grownBy X (some R)) (k : Below F X w') : U.grownBy w' (some R) := by
  subst hU
  exact gBt h k
theorem two_wf {xs : List Int} {y : Int} (h : ∀ x ∈ xs, (Lit.int .i64 x).wf = true) (hy : (Lit.int .i64 y).wf = true) : ∀ x ∈ xs ++ [y], (Lit.int .i64 x).wf = true := fun x hx => by
  rcases List.mem_append.1 hx with q | q
  · exact h x q
  · simp at q; rw [q]; exact hy
/-- What is drawn. -/
def FwAns (w : World) (e : Ending) (w' : World) : Prop :=
  ∃ (tv : Value) (t : Int) (ov fv qv : Value), e = .returned (.tuple #[tv, .agg #[.int .i64 t, ov], fv, qv]) ∧ (Lit.int .i64 t).wf = true ∧
    ∃ (ts : List ByteArray) (os fs qs : List Int), (1 ≤ ts.length ∧ ts.length ≤ 3 ∧ ∀ x ∈ ts, 1 ≤ x.size ∧ x.size ≤ 23) ∧ (os.length ≤ 23 ∧ ∀ x ∈ os, (Lit.int .i64 x).wf = true) ∧ (fs.length ≤ 8 ∧ ∀ x ∈ fs, (Lit.int .i64 x).wf = true) ∧ (qs.length ≤ 8 ∧ ∀ x ∈ qs, (Lit.int .i64 x).wf = true) ∧
    w'.ownsRow w.heap.size 9 1 tv ts.length (ts.map Value.string) ∧ w'.ownsRow w.heap.size 2 1 ov os.length (os.map (Value.int .i64)) ∧ w'.ownsRow w.heap.size 2 1 fv fs.length (fs.map (Value.int .i64)) ∧ w'.ownsRow w.heap.size 2 1 qv qs.length (qs.map (Value.int .i64)) ∧ Below w.heap.size w w'
theorem FwAns.drew {w w' : World} {e : Ending} (h : FwAns w e w') : FwAns w e w'.drew := by
  obtain ⟨tv, t, ov, fv, qv, h1, h2, ts, os, fs, qs, h3, h4, h5, h6, r1, r2, r3, r4, b⟩ := h
  exact ⟨tv, t, ov, fv, qv, h1, h2, ts, os, fs, qs, h3, h4, h5, h6, ⟨r1.1, r1.2⟩, ⟨r2.1, r2.2⟩, ⟨r3.1, r3.2⟩, ⟨r4.1, r4.2⟩, ⟨b.os, b.tape, b.output, b.size, b.block⟩⟩
set_option maxHeartbeats 4000000 in
set_option maxRecDepth 20000 in
theorem draw_forwarded (w : World) (a : Option Addr) (len cap : Nat) (hs : len ≤ 1048576) (hc : RdCode w w.heap.size a len) :
    Calls Try.prog 16 #[.slice a len cap] w fun e w' => FwAns w e w' := by
  obtain ⟨V, hV⟩ : ∃ V, V = w.alloc (.cells #[.int .i64 0, .slice none 0 0] 27) := ⟨_, rfl⟩
  have HV : Hid (V = w.alloc (.cells #[.int .i64 0, .slice none 0 0] 27)) := hV
  have hVS : V.heap.size = w.heap.size + 1 := by rw [hV]; simp
  have hVB : Below w.heap.size w V := by rw [hV]; exact (Below.refl _ _).alloc (Nat.le_refl _) _
  have HVS : Hid (V.heap.size = w.heap.size + 1) := hVS
  have HVB : Hid (Below w.heap.size w V) := hVB
  have HVC : Hid (RdCode V V.heap.size a len) := hc.below hVB (by omega)
  have HVP : Hid ((∀ i, i < 2 → ∃ v, V.cell? ⟨w.heap.size, i, none⟩ = some v) ∧ ∀ i, V.frozen? ⟨w.heap.size, i, none⟩ = false) := by
    refine ⟨fun i hi => ?_, fun i => by rw [hV]; exact World.frozen?_alloc_new _ _ _ _⟩
    rw [hV, World.cell?_alloc_new]
    match i, hi with
    | 0, _ => exact ⟨_, rfl⟩
    | 1, _ => exact ⟨_, rfl⟩
  clear hV hVS hVB hc
  go_enter Try.func16, Try.ntmps16
  go_wp2_with fail
  rw [← HV.out]
  refine (open_any _ a len cap hs HVC.out).mono ?_
  rintro e w1 ⟨rfl, hr1, hb1⟩
  obtain ⟨R, hR⟩ : ∃ R, R = V.heap.size := ⟨_, rfl⟩
  rw [← hR] at hr1 hb1 ⊢
  have HRE : Hid (R = V.heap.size) := hR
  have HB1 : Hid (Below R V w1) := hb1
  have HR1 : Hid (Rd w1 R a len cap) := hr1
  clear hr1 hb1 hR
  go_wp2_with fail
  refine (types_any2 _ R a len cap HR1.out).mono ?_
  rintro e w2 ⟨tv, rfl, ts, ht1, ht3, ht23, hown2, hr2, hb2⟩
  obtain ⟨ta, tg, tc, rfl, htg, hTx⟩ := txts_of_row hown2
  have hRs := HR1.out.size
  have HR2 : Hid (Rd w2 R a len cap) := hr2
  have HG2 : Hid (w1.grownBy w2 (some R)) := hb2
  have HT2 : Hid (w2.ownsRow w1.heap.size 9 1 (.slice ta ts.length tc) ts.length (ts.map Value.string)) := hown2
  have HTS : Hid (1 ≤ ts.length ∧ ts.length ≤ 3 ∧ ∀ x ∈ ts, 1 ≤ x.size ∧ x.size ≤ 23) := ⟨ht1, ht3, ht23⟩
  have HTX : Hid (Txts w2 ta tg ts) := hTx
  have HTG : Hid (tg ≠ R) := by show tg ≠ R; omega
  have HRS : Hid (R < w1.heap.size) := hRs
  clear hr2 hb2 hown2 hTx ht1 ht3 ht23 htg hRs
  have HOB : Hid (Calls Try.prog 24 #[.pointer (some ⟨R, 0, none⟩), .slice ta ts.length tc] w2 fun e w' => ObAns w2 R a len cap e w') := obj_any w2 R a len cap HR2.out ta tg tc ts HTX.out HTG.out HTS.out.1 HTS.out.2.1 HTS.out.2.2
  obtain ⟨nt, hnt⟩ : ∃ n, n = ts.length := ⟨_, rfl⟩
  rw [← hnt] at HOB HT2 ⊢
  have HNE : Hid (nt = ts.length) := hnt
  clear hnt
  go_wp2_with fail
  refine HOB.out.mono ?_
  rintro e w3 ⟨t, ov, rfl, ht, os, hol, how, hoo, hr3, hb3⟩
  obtain ⟨oa, og, oc, rfl, _, _⟩ := ints_of_row hoo
  have HOO : Hid (w3.ownsRow w2.heap.size 2 1 (.slice oa os.length oc) os.length (os.map (Value.int .i64))) := hoo
  have HOW : Hid (os.length ≤ 23 ∧ ∀ x ∈ os, (Lit.int .i64 x).wf = true) := ⟨hol, how⟩
  have HTW : Hid ((Lit.int .i64 t).wf = true) := ht
  have HR3 : Hid (Rd w3 R a len cap) := hr3
  have HG3 : Hid (w1.grownBy w3 (some R)) := gtrans HG2.out hb3
  have HT3 : Hid (w3.ownsRow w1.heap.size 9 1 (.slice ta nt tc) nt (ts.map Value.string)) := own_rdT HT2.out hb3 HRS.out
  have HSZ : Hid (w1.heap.size ≤ w2.heap.size) := HG2.out.size
  clear hol how hoo ht hr3 hb3 HOB HT2 HTX HTG HR2 HG2 HR1
  obtain ⟨no, hno⟩ : ∃ n, n = os.length := ⟨_, rfl⟩
  rw [← hno] at HOO ⊢
  have HNO : Hid (no = os.length) := hno
  clear hno
  obtain ⟨U, hU⟩ : ∃ U, U = w3.alloc (.cells #[.int .i64 t, .slice oa no oc] 27) := ⟨_, rfl⟩
  have HU : Hid (U = w3.alloc (.cells #[.int .i64 t, .slice oa no oc] 27)) := hU
  have hUS : U.heap.size = w3.heap.size + 1 := by rw [hU]; simp
  have hUB : Below w3.heap.size w3 U := by rw [hU]; exact (Below.refl _ _).alloc (Nat.le_refl _) _
  have HUC : Hid (U.cell? ⟨w3.heap.size, 0, none⟩ = some (.int .i64 t) ∧ U.cell? ⟨w3.heap.size, 1, none⟩ = some (.slice oa no oc)) := by
    rw [hU, World.cell?_alloc_new, World.cell?_alloc_new]; exact ⟨rfl, rfl⟩
  have hz1 : w.heap.size < w1.heap.size := by have := HB1.out.size; have := HVS.out; omega
  have hz3 : w1.heap.size ≤ w3.heap.size := HG3.out.size
  have hRw : R = w.heap.size + 1 := by have := HRE.out; have := HVS.out; omega
  have HEND : Hid (∀ wr, U.grownBy wr (some R) → (wr.cell? ⟨w3.heap.size, 0, none⟩ = some (.int .i64 t) ∧ wr.cell? ⟨w3.heap.size, 1, none⟩ = some (.slice oa no oc)) ∧ (∀ i, i < 2 → ∃ v, wr.cell? ⟨w.heap.size, i, none⟩ = some v) ∧ ∀ i, wr.frozen? ⟨w.heap.size, i, none⟩ = false) := fun wr hg => by
    have hRl := HRS.out
    have hb0 := hg.block w3.heap.size (by omega) (fun e => by have := Option.some.inj e; omega)
    have hb1 := hg.block w.heap.size (by omega) (fun e => by have := Option.some.inj e; omega)
    have hb2 := HG3.out.block w.heap.size hz1 (fun e => by have := Option.some.inj e; omega)
    have hlt : w.heap.size < w3.heap.size := by omega
    refine ⟨⟨by rw [World.cell?_of_block (a := ⟨w3.heap.size, 0, none⟩) hb0]; exact HUC.out.1, by rw [World.cell?_of_block (a := ⟨w3.heap.size, 1, none⟩) hb0]; exact HUC.out.2⟩, fun i hi => ?_, fun i => ?_⟩
    · rw [World.cell?_of_block (a := ⟨w.heap.size, i, none⟩) hb1, hUB.cell (p := ⟨w.heap.size, i, none⟩) hlt, World.cell?_of_block (a := ⟨w.heap.size, i, none⟩) hb2, HB1.out.cell (p := ⟨w.heap.size, i, none⟩) (show w.heap.size < R by omega)]
      exact HVP.out.1 i hi
    · rw [World.frozen?_of_block (a := ⟨w.heap.size, i, none⟩) hb1, hUB.frozen (p := ⟨w.heap.size, i, none⟩) hlt, World.frozen?_of_block (a := ⟨w.heap.size, i, none⟩) hb2, HB1.out.frozen (p := ⟨w.heap.size, i, none⟩) (show w.heap.size < R by omega)]
      exact HVP.out.2 i
  have HANS : Hid (∀ wr fv fs qv qs, U.grownBy wr (some R) → Two (w3.heap.size + 1) fv fs qv qs wr → (fs.length ≤ 8 ∧ ∀ x ∈ fs, (Lit.int .i64 x).wf = true) → (qs.length ≤ 8 ∧ ∀ x ∈ qs, (Lit.int .i64 x).wf = true) → ∀ x0 x1, FwAns w (.returned (.tuple #[.slice ta nt tc, .agg #[.int .i64 t, .slice oa no oc], fv, qv])) ((wr.setCell ⟨w.heap.size, 0, none⟩ x0).setCell ⟨w.heap.size, 1, none⟩ x1)) := fun wr fv fs qv qs hg hT hf hq x0 x1 => by
    have hRl := HRS.out
    have hg2 : wr.grownBy ((wr.setCell ⟨w.heap.size, 0, none⟩ x0).setCell ⟨w.heap.size, 1, none⟩ x1) (some w.heap.size) := grown_trans (grown_set _ _ _ _) (grown_set _ _ _ _)
    have row : ∀ {B e z : Nat} {v : Value} {n : Nat} {l : List Value}, w.heap.size < B → wr.ownsRow B e z v n l → ((wr.setCell ⟨w.heap.size, 0, none⟩ x0).setCell ⟨w.heap.size, 1, none⟩ x1).ownsRow w.heap.size e z v n l := fun hB h => own_mono (own_rdT h hg2 hB) (by omega)
    have hUw : w3.grownBy U (some R) := ⟨hUB.os, hUB.tape, hUB.output, hUB.size, fun i hi _ => hUB.block i hi⟩
    have h3r : w3.grownBy wr (some R) := gtrans hUw hg
    have r1 := own_rdT HT3.out h3r HRS.out
    have r2 := own_rdT HOO.out h3r (by have := HSZ.out; omega)
    rw [HNE.out] at r1 ⊢
    rw [HNO.out] at r2 ⊢
    refine ⟨_, _, _, _, _, rfl, HTW.out, ts, os, fs, qs, HTS.out, HOW.out, hf, hq, row hz1 r1, row (by have := HSZ.out; omega) r2, row (by omega) hT.f, row (by omega) hT.q, ?_⟩
    have b1 : Below w.heap.size w w1 := HVB.out.trans (HB1.out.mono (by omega))
    have b3 : Below w.heap.size w wr := below_of b1 (gtrans HG3.out h3r) (by omega) (by omega)
    exact (b3.setCell (p := ⟨w.heap.size, 0, none⟩) (Nat.le_refl _) x0).setCell (p := ⟨w.heap.size, 1, none⟩) (Nat.le_refl _) x1
  obtain ⟨S, hS⟩ : ∃ S, S = (U.alloc (.cells #[] 2)).alloc (.cells #[] 2) := ⟨_, rfl⟩
  have HS : Hid (S = (U.alloc (.cells #[] 2)).alloc (.cells #[] 2)) := hS
  have hT0 : Two (w3.heap.size + 1) (.slice (some ⟨w3.heap.size + 1, 0, none⟩) 0 0) [] (.slice (some ⟨w3.heap.size + 1 + 1, 0, none⟩) 0 0) [] S := by
    have h0 := Two.start U
    rw [hUS] at h0
    rw [hS]; exact h0
  have HRS0 : Hid (Rd S R a len cap) := by
    have h1 : Rd S R a len cap := by rw [hS, hU]; exact ((HR3.out.alloc _).alloc _).alloc _
    exact h1
  have HGS : Hid (U.grownBy S (some R)) := by
    have h1 : U.grownBy S (some R) := by rw [hS]; exact galloc (galloc (grefl _ _) _) _
    exact h1
  obtain ⟨F, hF⟩ : ∃ F, F = w3.heap.size + 1 := ⟨_, rfl⟩
  have HF : Hid (F = w3.heap.size + 1) := hF
  have HRF : Hid (R < F) := by show R < F; have := HRS.out; omega
  have HUF : Hid (F = U.heap.size) := by show F = _; omega
  rw [← hF] at hT0 HANS
  have HT0 : Hid (Two F (.slice (some ⟨F, 0, none⟩) 0 0) [] (.slice (some ⟨F + 1, 0, none⟩) 0 0) [] S) := hT0
  obtain ⟨ob, hob⟩ : ∃ o, o = w3.heap.size := ⟨_, rfl⟩
  have HOBE : Hid (ob = w3.heap.size) := hob
  rw [← hob] at HEND
  clear hU hUS hUB hz1 hz3 hRw hS hT0 hF hob HUC HR3 HG3 HT3 HOO HSZ HVB HVS HVC HVP
  go_wp2_with fail
  rw [← HU.out, ← HS.out, ← HF.out, ← HOBE.out]
  refine (below_pos _ R a len cap HRS0.out 8 (by omega) (by omega)).mono ?_
  rintro e w4 ⟨n0, rfl, hn0, hr4, hb4⟩
  have HR4 : Hid (Rd w4 R a len cap) := hr4
  have HG4 : Hid (U.grownBy w4 (some R)) := gtrans HGS.out hb4
  have HT4 : Hid (Two F (.slice (some ⟨F, 0, none⟩) 0 0) [] (.slice (some ⟨F + 1, 0, none⟩) 0 0) [] w4) := HT0.out.drawn hb4 HRF.out
  clear hr4 hb4
  go_wp2
  go_loopw [9, 10, 11] (fun fv qv i wr => ∃ (n : Nat) (fs qs : List Int), i = .int .i64 (n : Int) ∧ n ≤ 8 ∧ fs.length + n ≤ 7 ∧ qs.length + n ≤ 7 ∧ (∀ x ∈ fs, (Lit.int .i64 x).wf = true) ∧ (∀ x ∈ qs, (Lit.int .i64 x).wf = true) ∧ Two F fv fs qv qs wr ∧ Rd wr R a len cap ∧ U.grownBy wr (some R)) (fun _ _ i _ => (intOf i).toNat)
  case atStart => exact ⟨n0, [], [], rfl, by omega, by simp; omega, by simp; omega, by simp, by simp, HT4.out, HR4.out, HG4.out⟩
  case round =>
    obtain ⟨n, fs, qs, rfl, hn, hfn, hqn, hfw, hqw, hT, hr, hg⟩ := hrel
    have HRr : Hid (Rd wr R a len cap) := hr
    have HGr : Hid (U.grownBy wr (some R)) := hg
    have HTr : Hid (Two F u9 fs u10 qs wr) := hT
    have HFW : Hid (∀ x ∈ fs, (Lit.int .i64 x).wf = true) := hfw
    have HQW : Hid (∀ x ∈ qs, (Lit.int .i64 x).wf = true) := hqw
    have HFN : Hid (fs.length + n ≤ 7) := hfn
    have HQN : Hid (qs.length + n ≤ 7) := hqn
    clear hr hg hT hfw hqw hfn hqn hn0
    by_cases hlt : 0 < n
    · have hlti : (0 : Int) < (n : Int) := by omega
      obtain ⟨m, rfl⟩ : ∃ m, n = m + 1 := ⟨n - 1, by omega⟩
      go_wp2_with fail
      refine (below_pos _ R a len cap HRr.out 10 (by omega) (by omega)).mono ?_
      rintro e w5 ⟨p5, rfl, hp5, hr5, hb5⟩
      have HR5 : Hid (Rd w5 R a len cap) := hr5
      have HG5 : Hid (U.grownBy w5 (some R)) := gtrans HGr.out hb5
      have HT5 : Hid (Two F u9 fs u10 qs w5) := HTr.out.drawn hb5 HRF.out
      clear hr5 hb5
      go_wp2_with fail
      refine (below_pos _ R a len cap HR5.out 2 (by omega) (by omega)).mono ?_
      rintro e w6 ⟨p6, rfl, hp6, hr6, hb6⟩
      have HR6 : Hid (Rd w6 R a len cap) := hr6
      have HG6 : Hid (U.grownBy w6 (some R)) := gtrans HG5.out hb6
      have HT6 : Hid (Two F u9 fs u10 qs w6) := HT5.out.drawn hb6 HRF.out
      have HY : Hid ((Lit.int .i64 (2 * (p5 : Int) + (p6 : Int))).wf = true) := wf_i64 _ (by omega) (by omega)
      clear hr6 hb6
      go_wp2_with (refine wpList_pushF w6 (by rfl) _ _ (by rfl) F u9 fs (2 * (p5 : Int) + (p6 : Int)) u10 qs HT6.out (by rfl) (by rfl) (by have := HFN.out; omega) (Nat.le_trans (Nat.le_of_eq HUF.out) HG6.out.size) ?_; intro g7 cp7 w7 hT7 hb7 hs7; have HT7 : Hid (Two F (.slice (some ⟨g7, 0, none⟩) (fs.length + 1) cp7) (fs ++ [(2 * (p5 : Int) + (p6 : Int))]) u10 qs w7) := hT7; have HR7 : Hid (Rd w7 R a len cap) := HR6.out.above (hb7.mono HRF.out); have HG7 : Hid (U.grownBy w7 (some R)) := gBF HUF.out HG6.out hb7; clear hT7 hb7 hs7)
      refine (below_pos _ R a len cap HR7.out 60 (by omega) (by omega)).mono ?_
      rintro e w8 ⟨p8, rfl, hp8, hr8, hb8⟩
      have HR8 : Hid (Rd w8 R a len cap) := hr8
      have HG8 : Hid (U.grownBy w8 (some R)) := gtrans HG7.out hb8
      have HT8 : Hid (Two F u10 qs (.slice (some ⟨g7, 0, none⟩) (fs.length + 1) cp7) (fs ++ [2 * (p5 : Int) + (p6 : Int)]) w8) := (HT7.out.drawn hb8 HRF.out).symm
      have HZ : Hid ((Lit.int .i64 (2 * (1 + (p8 : Int)))).wf = true) := wf_i64 _ (by omega) (by omega)
      clear hr8 hb8
      go_wp2_with (refine wpList_pushF w8 (by rfl) _ _ (by rfl) F u10 qs (2 * (1 + (p8 : Int))) (.slice (some ⟨g7, 0, none⟩) (fs.length + 1) cp7) (fs ++ [2 * (p5 : Int) + (p6 : Int)]) HT8.out (by rfl) (by rfl) (by have := HQN.out; omega) (Nat.le_trans (Nat.le_of_eq HUF.out) HG8.out.size) ?_; intro g9 cp9 w9 hT9 hb9 hs9; have HT9 : Hid (Two F (.slice (some ⟨g9, 0, none⟩) (qs.length + 1) cp9) (qs ++ [(2 * (1 + (p8 : Int)))]) (.slice (some ⟨g7, 0, none⟩) (fs.length + 1) cp7) (fs ++ [2 * (p5 : Int) + (p6 : Int)]) w9) := hT9; have HR9 : Hid (Rd w9 R a len cap) := HR8.out.above (hb9.mono HRF.out); have HG9 : Hid (U.grownBy w9 (some R)) := gBF HUF.out HG8.out hb9; clear hT9 hb9 hs9)
      go_roundw
      case rel => exact ⟨m, fs ++ [2 * (p5 : Int) + (p6 : Int)], qs ++ [2 * (1 + (p8 : Int))], by go_num, by omega, by have := HFN.out; simp; omega, by have := HQN.out; simp; omega, two_wf HFW.out HY.out, two_wf HQW.out HZ.out, HT9.out.symm, HR9.out, HG9.out⟩
      case measure => simp [intOf]
    · have hge : ¬ (0 : Int) < (n : Int) := by omega
      go_wp2_with fail
      refine (below_pos _ R a len cap HRr.out 20 (by omega) (by omega)).mono ?_
      rintro e w5 ⟨q, rfl, hq, hr5, hb5⟩
      have HR5 : Hid (Rd w5 R a len cap) := hr5
      have HG5 : Hid (U.grownBy w5 (some R)) := gtrans HGr.out hb5
      have HT5 : Hid (Two F u9 fs u10 qs w5) := HTr.out.drawn hb5 HRF.out
      clear hr5 hb5 hlt hn
      by_cases hq0 : q = 0
      · subst hq0
        have HY1 : Hid ((Lit.int .i64 1).wf = true) := rfl
        go_wp2_with (refine wpList_pushF w5 (by rfl) _ _ (by rfl) F u9 fs 1 u10 qs HT5.out (by rfl) (by rfl) (by have := HFN.out; omega) (Nat.le_trans (Nat.le_of_eq HUF.out) HG5.out.size) ?_; intro g6 cp6 w6 hT6 hb6 hs6; have HT6 : Hid (Two F (.slice (some ⟨g6, 0, none⟩) (fs.length + 1) cp6) (fs ++ [1]) u10 qs w6) := hT6; have HR6 : Hid (Rd w6 R a len cap) := HR5.out.above (hb6.mono HRF.out); have HG6 : Hid (U.grownBy w6 (some R)) := gBF HUF.out HG5.out hb6; clear hT6 hb6 hs6)
        have HFL : Hid ((fs ++ [(1 : Int)]).length ≤ 8 ∧ ∀ x ∈ fs ++ [(1 : Int)], (Lit.int .i64 x).wf = true) := ⟨by have := HFN.out; simp; omega, two_wf HFW.out HY1.out⟩
        have HQL : Hid (qs.length ≤ 8 ∧ ∀ x ∈ qs, (Lit.int .i64 x).wf = true) := ⟨by have := HQN.out; omega, HQW.out⟩
        obtain ⟨⟨o0, o1⟩, hrb, hrf⟩ := HEND.out w6 HG6.out
        obtain ⟨⟨v0, e0⟩, ⟨v1, e1⟩⟩ := And.intro (hrb 0 (by decide)) (hrb 1 (by decide))
        have f0 := hrf 0
        have f1 := hrf 1
        have HQ : Hid (_ ∧ _) := set2 hrb (.int .i64 t) (.slice oa no oc)
        have HD : Hid (FwAns _ _ _) := HANS.out w6 (.slice (some ⟨g6, 0, none⟩) (fs.length + 1) cp6) (fs ++ [(1 : Int)]) u10 qs HG6.out HT6.out HFL.out HQL.out (.int .i64 t) (.slice oa no oc)
        clear hrb hrf
        go_wp2
        go_region
        all_goals
          go_wp2
          refine bodyPost_ret (v := .tuple #[.slice ta nt tc, .agg #[.int .i64 t, .slice oa no oc], (.slice (some ⟨g6, 0, none⟩) (fs.length + 1) cp6), u10]) ?_ rfl HD.out.drew
          obtain ⟨q0, q1⟩ := HQ.out
          simp [results, Try.results16, go_sem, q0, q1]
      · by_cases hq1 : q = 1
        · subst hq1
          have HY1 : Hid ((Lit.int .i64 3).wf = true) := rfl
          go_wp2_with (refine wpList_pushF w5 (by rfl) _ _ (by rfl) F u9 fs 3 u10 qs HT5.out (by rfl) (by rfl) (by have := HFN.out; omega) (Nat.le_trans (Nat.le_of_eq HUF.out) HG5.out.size) ?_; intro g6 cp6 w6 hT6 hb6 hs6; have HT6 : Hid (Two F (.slice (some ⟨g6, 0, none⟩) (fs.length + 1) cp6) (fs ++ [3]) u10 qs w6) := hT6; have HR6 : Hid (Rd w6 R a len cap) := HR5.out.above (hb6.mono HRF.out); have HG6 : Hid (U.grownBy w6 (some R)) := gBF HUF.out HG5.out hb6; clear hT6 hb6 hs6)
          refine (ref_any _ R a len cap HR6.out).mono ?_
          rintro e w7 ⟨y7, rfl, hy7, hr7, hb7⟩
          have HR7 : Hid (Rd w7 R a len cap) := hr7
          have HG7 : Hid (U.grownBy w7 (some R)) := gtrans HG6.out hb7
          have HT7 : Hid (Two F u10 qs (.slice (some ⟨g6, 0, none⟩) (fs.length + 1) cp6) (fs ++ [(3 : Int)]) w7) := (HT6.out.drawn hb7 HRF.out).symm
          have HY7 : Hid ((Lit.int .i64 y7).wf = true) := hy7
          clear hr7 hb7 hy7
          go_wp2_with (refine wpList_pushF w7 (by rfl) _ _ (by rfl) F u10 qs y7 (.slice (some ⟨g6, 0, none⟩) (fs.length + 1) cp6) (fs ++ [(3 : Int)]) HT7.out (by rfl) (by rfl) (by have := HQN.out; omega) (Nat.le_trans (Nat.le_of_eq HUF.out) HG7.out.size) ?_; intro g8 cp8 w8 hT8 hb8 hs8; have HT8 : Hid (Two F (.slice (some ⟨g8, 0, none⟩) (qs.length + 1) cp8) (qs ++ [y7]) (.slice (some ⟨g6, 0, none⟩) (fs.length + 1) cp6) (fs ++ [(3 : Int)]) w8) := hT8; have HR8 : Hid (Rd w8 R a len cap) := HR7.out.above (hb8.mono HRF.out); have HG8 : Hid (U.grownBy w8 (some R)) := gBF HUF.out HG7.out hb8; clear hT8 hb8 hs8)
          have HT8b : Hid (Two F (.slice (some ⟨g6, 0, none⟩) (fs.length + 1) cp6) (fs ++ [(3 : Int)]) (.slice (some ⟨g8, 0, none⟩) (qs.length + 1) cp8) (qs ++ [y7]) w8) := HT8.out.symm
          have HFL : Hid ((fs ++ [(3 : Int)]).length ≤ 8 ∧ ∀ x ∈ fs ++ [(3 : Int)], (Lit.int .i64 x).wf = true) := ⟨by have := HFN.out; simp; omega, two_wf HFW.out HY1.out⟩
          have HQL : Hid ((qs ++ [y7]).length ≤ 8 ∧ ∀ x ∈ qs ++ [y7], (Lit.int .i64 x).wf = true) := ⟨by have := HQN.out; simp; omega, two_wf HQW.out HY7.out⟩
          obtain ⟨⟨o0, o1⟩, hrb, hrf⟩ := HEND.out w8 HG8.out
          obtain ⟨⟨v0, e0⟩, ⟨v1, e1⟩⟩ := And.intro (hrb 0 (by decide)) (hrb 1 (by decide))
          have f0 := hrf 0
          have f1 := hrf 1
          have HQ : Hid (_ ∧ _) := set2 hrb (.int .i64 t) (.slice oa no oc)
          have HD : Hid (FwAns _ _ _) := HANS.out w8 (.slice (some ⟨g6, 0, none⟩) (fs.length + 1) cp6) (fs ++ [(3 : Int)]) (.slice (some ⟨g8, 0, none⟩) (qs.length + 1) cp8) (qs ++ [y7]) HG8.out HT8b.out HFL.out HQL.out (.int .i64 t) (.slice oa no oc)
          clear hrb hrf
          go_wp2
          go_region
          all_goals
            go_wp2
            refine bodyPost_ret (v := .tuple #[.slice ta nt tc, .agg #[.int .i64 t, .slice oa no oc], (.slice (some ⟨g6, 0, none⟩) (fs.length + 1) cp6), (.slice (some ⟨g8, 0, none⟩) (qs.length + 1) cp8)]) ?_ rfl HD.out.drew
            obtain ⟨q0, q1⟩ := HQ.out
            simp [results, Try.results16, go_sem, q0, q1]
        · have n0 : (((q : Nat) : Int) == 0) = false := by simp; omega
          have n1 : (((q : Nat) : Int) == 1) = false := by simp; omega
          have HFL : Hid (fs.length ≤ 8 ∧ ∀ x ∈ fs, (Lit.int .i64 x).wf = true) := ⟨by have := HFN.out; omega, HFW.out⟩
          have HQL : Hid (qs.length ≤ 8 ∧ ∀ x ∈ qs, (Lit.int .i64 x).wf = true) := ⟨by have := HQN.out; omega, HQW.out⟩
          obtain ⟨⟨o0, o1⟩, hrb, hrf⟩ := HEND.out w5 HG5.out
          obtain ⟨⟨v0, e0⟩, ⟨v1, e1⟩⟩ := And.intro (hrb 0 (by decide)) (hrb 1 (by decide))
          have f0 := hrf 0
          have f1 := hrf 1
          have HQ : Hid (_ ∧ _) := set2 hrb (.int .i64 t) (.slice oa no oc)
          have HD : Hid (FwAns _ _ _) := HANS.out w5 u9 fs u10 qs HG5.out HT5.out HFL.out HQL.out (.int .i64 t) (.slice oa no oc)
          clear hrb hrf
          go_wp2
          go_region
          all_goals
            go_wp2
            refine bodyPost_ret (v := .tuple #[.slice ta nt tc, .agg #[.int .i64 t, .slice oa no oc], u9, u10]) ?_ rfl HD.out.drew
            obtain ⟨q0, q1⟩ := HQ.out
            simp [results, Try.results16, go_sem, q0, q1]
end Go.Proofs.Ytnacdfoejmjlgaa.rd
