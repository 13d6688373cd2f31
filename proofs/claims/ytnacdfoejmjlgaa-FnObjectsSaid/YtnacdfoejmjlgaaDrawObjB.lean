/-
  The draws of objects and of their bytes.
-/
import Derived.Test.YtnacdfoejmjlgaaDrawObj
import Derived.Test.YtnacdfoejmjlgaaHurtK
import Derived.Test.YtnacdfoejmjlgaaObj4
import Derived.Test.YtnacdfoejmjlgaaObjBack
import Derived.Test.YtnacdfoejmjlgaaZeros
import Derived.Deep.RegionWith
import Derived.Deep.WholeRow
namespace Go.Proofs.Ytnacdfoejmjlgaa.rd
open Go.RowKit
open txt ints obj num

theorem own_same {w w' : World} {B e z : Nat} {v : Value} {n : Nat} {xs : List Value} (h : w.ownsRow B e z v n xs) (hk : ∀ g, v.ownBlock = some g → w'.heap[g]? = w.heap[g]?) : w'.ownsRow B e z v n xs := by
  refine ⟨h.1, ?_⟩
  rcases h.2 with q | ⟨g, cap, cur, rfl, hg0, hg, r⟩
  · exact .inl q
  · exact .inr ⟨g, cap, cur, rfl, hg0, by rw [hk g rfl]; exact hg, r⟩
/-- Types and an object that are drawn. -/
def ObDrawn (w : World) (e : Ending) (w' : World) : Prop :=
  ∃ (tv : Value) (t : Int) (ov : Value), e = .returned (.tuple #[tv, .agg #[.int .i64 t, ov]]) ∧ (Lit.int .i64 t).wf = true ∧
    ∃ (ts : List ByteArray) (os : List Int), (ts.length ≤ 13 ∧ ∀ x ∈ ts, x.size ≤ 26) ∧ (os.length ≤ 23 ∧ ∀ x ∈ os, (Lit.int .i64 x).wf = true) ∧
    w'.ownsRow w.heap.size 9 1 tv ts.length (ts.map Value.string) ∧ w'.ownsRow w.heap.size 2 1 ov os.length (os.map (Value.int .i64)) ∧ Below w.heap.size w w'
set_option maxHeartbeats 2000000 in
set_option maxRecDepth 20000 in
theorem draw_objok (w : World) (a : Option Addr) (len cap : Nat) (hs : len ≤ 1048576) (hc : RdCode w w.heap.size a len) :
    Calls Try.prog 20 #[.slice a len cap] w fun e w' => ObDrawn w e w' := by
  obtain ⟨V, hV⟩ : ∃ V, V = w.alloc (.cells #[.int .i64 0, .slice none 0 0] 27) := ⟨_, rfl⟩
  have HV : Hid (V = w.alloc (.cells #[.int .i64 0, .slice none 0 0] 27)) := hV
  have hVS : V.heap.size = w.heap.size + 1 := by rw [hV]; simp
  have hVB : Below w.heap.size w V := by rw [hV]; exact (Below.refl _ _).alloc (Nat.le_refl _) _
  have HVS : Hid (V.heap.size = w.heap.size + 1) := hVS
  have HVB : Hid (Below w.heap.size w V) := hVB
  have HVC : Hid (RdCode V V.heap.size a len) := hc.below hVB (by omega)
  have HVP : Hid ((∀ i, i < 2 → ∃ v, V.cell? ⟨w.heap.size, i, none⟩ = some v) ∧ ∀ i, V.frozen? ⟨w.heap.size, i, none⟩ = false) := by
    refine ⟨fun i hi => ?_, fun i => by rw [hV]; exact World.frozen?_alloc_new _ _ _ _⟩
    rw [hV, World.cell?_alloc_new]
    match i, hi with
    | 0, _ => exact ⟨_, rfl⟩
    | 1, _ => exact ⟨_, rfl⟩
  clear hV hVS hVB hc
  go_enter Try.func20, Try.ntmps20
  go_wp2_with fail
  rw [← HV.out]
  refine (open_any _ a len cap hs HVC.out).mono ?_
  rintro e w1 ⟨rfl, hr1, hb1⟩
  obtain ⟨R, hR⟩ : ∃ R, R = V.heap.size := ⟨_, rfl⟩
  rw [← hR] at hr1 hb1 ⊢
  have HRE : Hid (R = V.heap.size) := hR
  have HB1 : Hid (Below R V w1) := hb1
  have HR1 : Hid (Rd w1 R a len cap) := hr1
  clear hr1 hb1 hR
  go_wp2_with fail
  refine (types_any2 _ R a len cap HR1.out).mono ?_
  rintro e w2 ⟨tv, rfl, ts, ht1, ht3, ht23, hown2, hr2, hb2⟩
  obtain ⟨ta, tg, tc, rfl, htg, hTx⟩ := txts_of_row hown2
  have hRs := HR1.out.size
  have HR2 : Hid (Rd w2 R a len cap) := hr2
  have HG2 : Hid (w1.grownBy w2 (some R)) := hb2
  have HT2 : Hid (w2.ownsRow w1.heap.size 9 1 (.slice ta ts.length tc) ts.length (ts.map Value.string)) := hown2
  have HTS : Hid (1 ≤ ts.length ∧ ts.length ≤ 3 ∧ ∀ x ∈ ts, 1 ≤ x.size ∧ x.size ≤ 23) := ⟨ht1, ht3, ht23⟩
  have HTX : Hid (Txts w2 ta tg ts) := hTx
  have HTG : Hid (tg ≠ R) := by show tg ≠ R; omega
  have HRS : Hid (R < w1.heap.size) := hRs
  clear hr2 hb2 hown2 hTx ht1 ht3 ht23 htg hRs
  have HOB : Hid (Calls Try.prog 24 #[.pointer (some ⟨R, 0, none⟩), .slice ta ts.length tc] w2 fun e w' => ObAns w2 R a len cap e w') := obj_any w2 R a len cap HR2.out ta tg tc ts HTX.out HTG.out HTS.out.1 HTS.out.2.1 HTS.out.2.2
  obtain ⟨nt, hnt⟩ : ∃ n, n = ts.length := ⟨_, rfl⟩
  rw [← hnt] at HOB HT2 ⊢
  have HTB : Hid (∀ k, (k < w1.heap.size ∨ w2.heap.size ≤ k) → (Value.slice ta nt tc).ownBlock ≠ some k) := fun k hk e => by have := HT2.out.lt k e; omega
  have HNE : Hid (nt = ts.length) := hnt
  clear hnt
  go_wp2_with fail
  refine HOB.out.mono ?_
  rintro e w3 ⟨t, ov, rfl, ht, os, hol, how, hoo, hr3, hb3⟩
  obtain ⟨oa, og, oc, rfl, _, _⟩ := ints_of_row hoo
  have HOO : Hid (w3.ownsRow w2.heap.size 2 1 (.slice oa os.length oc) os.length (os.map (Value.int .i64))) := hoo
  have HOW : Hid (os.length ≤ 23 ∧ ∀ x ∈ os, (Lit.int .i64 x).wf = true) := ⟨hol, how⟩
  have HTW : Hid ((Lit.int .i64 t).wf = true) := ht
  have HR3 : Hid (Rd w3 R a len cap) := hr3
  have HG3 : Hid (w1.grownBy w3 (some R)) := gtrans HG2.out hb3
  have HT3 : Hid (w3.ownsRow w1.heap.size 9 1 (.slice ta nt tc) nt (ts.map Value.string)) := own_rdT HT2.out hb3 HRS.out
  have HSZ : Hid (w1.heap.size ≤ w2.heap.size) := HG2.out.size
  have HSY : Hid (w2.heap.size ≤ w3.heap.size) := hb3.size
  clear hol how hoo ht hr3 hb3 HOB HT2 HTX HTG HR2 HG2 HR1
  obtain ⟨no, hno⟩ : ∃ n, n = os.length := ⟨_, rfl⟩
  rw [← hno] at HOO ⊢
  have HNO : Hid (no = os.length) := hno
  clear hno
  obtain ⟨U, hU⟩ : ∃ U, U = w3.alloc (.cells #[.int .i64 t, .slice oa no oc] 27) := ⟨_, rfl⟩
  have HU : Hid (U = w3.alloc (.cells #[.int .i64 t, .slice oa no oc] 27)) := hU
  have hUS : U.heap.size = w3.heap.size + 1 := by rw [hU]; simp
  have hUB : Below w3.heap.size w3 U := by rw [hU]; exact (Below.refl _ _).alloc (Nat.le_refl _) _
  have HUC : Hid (U.cell? ⟨w3.heap.size, 0, none⟩ = some (.int .i64 t) ∧ U.cell? ⟨w3.heap.size, 1, none⟩ = some (.slice oa no oc)) := by
    rw [hU, World.cell?_alloc_new, World.cell?_alloc_new]; exact ⟨rfl, rfl⟩
  have hz1 : w.heap.size < w1.heap.size := by have := HB1.out.size; have := HVS.out; have := HRE.out; omega
  have hz3 : w1.heap.size ≤ w3.heap.size := HG3.out.size
  have hRw : R = w.heap.size + 1 := by have := HRE.out; have := HVS.out; omega
  have HHT : Hid (∀ W, Below U.heap.size U W → Calls Try.prog 48 #[.pointer (some ⟨R, 0, none⟩), .slice ta nt tc] W fun e w' => ∃ v : Value, e = .returned v ∧ (w'.cell? ⟨w3.heap.size, 0, none⟩ = some (.int .i64 t) ∧ w'.cell? ⟨w3.heap.size, 1, none⟩ = some (.slice oa no oc)) ∧ ((∀ i, i < 2 → ∃ v, w'.cell? ⟨w.heap.size, i, none⟩ = some v) ∧ ∀ i, w'.frozen? ⟨w.heap.size, i, none⟩ = false) ∧ ∀ x0 x1, ObDrawn w (.returned (.tuple #[v, .agg #[.int .i64 t, .slice oa no oc]])) ((w'.setCell ⟨w.heap.size, 0, none⟩ x0).setCell ⟨w.heap.size, 1, none⟩ x1)) := fun W hW => by
    have hTU := HT3.out.kept (row := some R) (w' := U) ⟨hUB.os, hUB.tape, hUB.output, hUB.size, fun i hi _ => hUB.block i hi⟩ (by
      cases ho : (Value.slice ta nt tc).ownBlock with
      | none => exact .inl rfl
      | some b => exact .inr (by have := (HT3.out.lt b ho).1; have := HRS.out; simp; omega))
    have hTW := row_below hTU hW
    have hRW : Rd W R a len cap := (HR3.out.alloc _).later (by rw [← HU.out]; exact hW)
    have hgU : w3.grownBy U (some R) := ⟨hUB.os, hUB.tape, hUB.output, hUB.size, fun i hi _ => hUB.block i hi⟩
    have hgW : U.grownBy W (some R) := ⟨hW.os, hW.tape, hW.output, hW.size, fun i hi _ => hW.block i hi⟩
    have hg1W : w1.grownBy W (some R) := gtrans HG3.out (gtrans hgU hgW)
    have hRl := HRS.out
    have hTSo := HTS.out
    have hNEo := HNE.out
    have hTWn := hTW
    rw [hNEo] at hTWn
    have h1 := hurt_types W R a len cap hRW w1 w1.heap.size hRl (Nat.le_refl _) hg1W.size hg1W (.slice ta ts.length tc) ts hTSo.1 hTSo.2.1 (fun x hx => (hTSo.2.2 x hx).2) hTWn
    rw [← hNEo] at h1
    refine h1.mono ?_
    rintro e w' ⟨v, rfl, ys, hyl, hyz, hown, hr', hg', hfm, _⟩
    have hUlt : ∀ k, k < U.heap.size → k ≠ R → (Value.slice ta nt tc).ownBlock ≠ some k → w'.heap[k]? = U.heap[k]? := fun k hk hkR hkg => by
      rw [hfm.2 k (Nat.lt_of_lt_of_le hk hW.size) hkR hkg]
      exact hW.block k hk
    have hb0 : w'.heap[w3.heap.size]? = U.heap[w3.heap.size]? := hUlt _ (by omega) (by omega) (HTB.out _ (.inr HSY.out))
    have hbv : w'.heap[w.heap.size]? = V.heap[w.heap.size]? := by
      rw [hUlt w.heap.size (by omega) (by omega) (HTB.out _ (.inl hz1)), hUB.block w.heap.size (by omega), HG3.out.block w.heap.size hz1 (fun e => by have := Option.some.inj e; omega)]
      exact HB1.out.block w.heap.size (by omega)
    refine ⟨v, rfl, ⟨by rw [World.cell?_of_block (a := ⟨w3.heap.size, 0, none⟩) hb0]; exact HUC.out.1, by rw [World.cell?_of_block (a := ⟨w3.heap.size, 1, none⟩) hb0]; exact HUC.out.2⟩, ⟨fun i hi => by rw [World.cell?_of_block (a := ⟨w.heap.size, i, none⟩) hbv]; exact HVP.out.1 i hi, fun i => by rw [World.frozen?_of_block (a := ⟨w.heap.size, i, none⟩) hbv]; exact HVP.out.2 i⟩, fun x0 x1 => ?_⟩
    have hg2 : w'.grownBy ((w'.setCell ⟨w.heap.size, 0, none⟩ x0).setCell ⟨w.heap.size, 1, none⟩ x1) (some w.heap.size) := grown_trans (grown_set _ _ _ _) (grown_set _ _ _ _)
    have row : ∀ {B e z : Nat} {v : Value} {n : Nat} {l : List Value}, w.heap.size < B → w'.ownsRow B e z v n l → ((w'.setCell ⟨w.heap.size, 0, none⟩ x0).setCell ⟨w.heap.size, 1, none⟩ x1).ownsRow w.heap.size e z v n l := fun hB h => own_mono (own_rdT h hg2 hB) (by omega)
    have hsz := HSZ.out
    have hOw : w'.ownsRow w2.heap.size 2 1 (.slice oa no oc) no (os.map (Value.int .i64)) := own_same HOO.out (fun g hg => by
      obtain ⟨g1, g2⟩ := HOO.out.lt g hg
      rw [hUlt g (by omega) (by omega) (HTB.out g (.inr g1)), hUB.block g g2])
    have hNOo := HNO.out
    have r2 := row (by omega) hOw
    rw [hNOo] at r2 ⊢
    refine ⟨_, _, _, rfl, HTW.out, ys, os, ⟨hyl, hyz⟩, HOW.out, row hz1 hown, r2, ?_⟩
    have b1 : Below w.heap.size w w1 := HVB.out.trans (HB1.out.mono (by omega))
    have b3 : Below w.heap.size w w' := below_of b1 hg' (by omega) (by omega)
    exact (b3.setCell (p := ⟨w.heap.size, 0, none⟩) (Nat.le_refl _) x0).setCell (p := ⟨w.heap.size, 1, none⟩) (Nat.le_refl _) x1
  have HBU : Hid (Below U.heap.size U U.drew) := (Below.refl _ _).drew
  obtain ⟨u0, u1⟩ := HUC.out
  clear hU hUS hUB hz1 hz3 hRw HTB HSZ HSY HT3 HOO HG3 HR3
  go_wp2_with (rw [← HU.out])
  go_region_with (go_at_call 48; refine (HHT.out _ HBU.out).mono ?_; rintro x w5 ⟨v, rfl, ⟨k0, k1⟩, ⟨hr, f0⟩, hend⟩; have HR5 : Hid (∀ i, i < 2 → ∃ v, w5.cell? ⟨w.heap.size, i, none⟩ = some v) := hr; have HF5 : Hid (∀ i, w5.frozen? ⟨w.heap.size, i, none⟩ = false) := f0; have HEN : Hid (∀ x0 x1, ObDrawn w _ ((w5.setCell ⟨w.heap.size, 0, none⟩ x0).setCell ⟨w.heap.size, 1, none⟩ x1)) := hend; clear hr f0 hend; obtain ⟨⟨v0, e0⟩, ⟨v1, e1⟩⟩ := And.intro (HR5.out 0 (by decide)) (HR5.out 1 (by decide)); have f0 := HF5.out 0; have f1 := HF5.out 1)
  all_goals
    have HQ : Hid (_ ∧ _) := set2 HR5.out (.int .i64 t) (.slice oa no oc)
    go_wp2
    refine bodyPost_ret (v := .tuple #[v, .agg #[.int .i64 t, .slice oa no oc]]) ?_ rfl (HEN.out _ _)
    obtain ⟨q0, q1⟩ := HQ.out
    simp [results, Try.results20, go_sem, q0, q1]
end Go.Proofs.Ytnacdfoejmjlgaa.rd
