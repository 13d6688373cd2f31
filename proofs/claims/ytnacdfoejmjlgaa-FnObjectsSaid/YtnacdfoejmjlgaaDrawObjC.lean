/-
  The draws of the law on objects and their bytes.
-/
import Derived.Test.YtnacdfoejmjlgaaDrawObjB
import Derived.Test.YtnacdfoejmjlgaaConv
namespace Go.Proofs.Ytnacdfoejmjlgaa.rd
open Go.RowKit
open txt ints obj num

set_option maxHeartbeats 1000000 in
set_option maxRecDepth 20000 in
theorem draw_objectbytes (w : World) (a : Option Addr) (len cap : Nat) (hs : len ≤ 1048576) (hc : RdCode w w.heap.size a len) :
    Calls Try.prog 6 #[.slice a len cap] w fun e w' => ObDrawn w e w' := by
  obtain ⟨V, hV⟩ : ∃ V, V = w.alloc (.cells #[.int .i64 0, .slice none 0 0] 27) := ⟨_, rfl⟩
  have HV : Hid (V = w.alloc (.cells #[.int .i64 0, .slice none 0 0] 27)) := hV
  have hVS : V.heap.size = w.heap.size + 1 := by rw [hV]; simp
  have hVB : Below w.heap.size w V := by rw [hV]; exact (Below.refl _ _).alloc (Nat.le_refl _) _
  have HVS : Hid (V.heap.size = w.heap.size + 1) := hVS
  have HVB : Hid (Below w.heap.size w V) := hVB
  have HVP : Hid ((∀ i, i < 2 → ∃ v, V.cell? ⟨w.heap.size, i, none⟩ = some v) ∧ ∀ i, V.frozen? ⟨w.heap.size, i, none⟩ = false) := by
    refine ⟨fun i hi => ?_, fun i => by rw [hV]; exact World.frozen?_alloc_new _ _ _ _⟩
    rw [hV, World.cell?_alloc_new]
    match i, hi with
    | 0, _ => exact ⟨_, rfl⟩
    | 1, _ => exact ⟨_, rfl⟩
  have HC : Hid (Calls _ _ _ V _) := draw_objok V a len cap hs (hc.below hVB (by rw [hVS]; omega))
  clear hc hV hVS hVB
  go_enter Try.func6, Try.ntmps6
  go_wp2_with (rw [← HV.out])
  refine HC.out.mono ?_
  rintro e w3 ⟨tv, t, ov, rfl, ht, ts, os, htl, hol, rt, ro, hb⟩
  obtain ⟨oa, og, oc, rfl, _, _⟩ := ints_of_row ro
  have hbv : w3.heap[w.heap.size]? = V.heap[w.heap.size]? := hb.block w.heap.size (by rw [HVS.out]; omega)
  have HR : Hid (∀ i, i < 2 → ∃ v, w3.cell? ⟨w.heap.size, i, none⟩ = some v) := fun i hi => by rw [World.cell?_of_block (a := ⟨w.heap.size, i, none⟩) hbv]; exact HVP.out.1 i hi
  have HF : Hid (∀ i, w3.frozen? ⟨w.heap.size, i, none⟩ = false) := fun i => by rw [World.frozen?_of_block (a := ⟨w.heap.size, i, none⟩) hbv]; exact HVP.out.2 i
  have HEN : Hid (∀ x0 x1, ObDrawn w (.returned (.tuple #[tv, .agg #[.int .i64 t, .slice oa os.length oc]])) ((w3.setCell ⟨w.heap.size, 0, none⟩ x0).setCell ⟨w.heap.size, 1, none⟩ x1)) := fun x0 x1 => by
    have hg2 : w3.grownBy ((w3.setCell ⟨w.heap.size, 0, none⟩ x0).setCell ⟨w.heap.size, 1, none⟩ x1) (some w.heap.size) := grown_trans (grown_set _ _ _ _) (grown_set _ _ _ _)
    have hvs := HVS.out
    refine ⟨tv, t, .slice oa os.length oc, rfl, ht, ts, os, htl, hol, own_mono (own_rdT rt hg2 (by omega)) (by omega), own_mono (own_rdT ro hg2 (by omega)) (by omega), ?_⟩
    exact ((HVB.out.trans (hb.mono (by omega))).setCell (p := ⟨w.heap.size, 0, none⟩) (Nat.le_refl _) x0).setCell (p := ⟨w.heap.size, 1, none⟩) (Nat.le_refl _) x1
  obtain ⟨⟨v0, e0⟩, ⟨v1, e1⟩⟩ := And.intro (HR.out 0 (by decide)) (HR.out 1 (by decide))
  have f0 := HF.out 0
  have f1 := HF.out 1
  have HQ : Hid (_ ∧ _) := set2 HR.out (.int .i64 t) (.slice oa os.length oc)
  clear hbv ht htl hol rt ro hb
  go_wp2
  refine bodyPost_ret (v := .tuple #[tv, .agg #[.int .i64 t, .slice oa os.length oc]]) ?_ rfl (HEN.out _ _)
  obtain ⟨q0, q1⟩ := HQ.out
  simp [results, Try.results6, go_sem, q0, q1]

set_option maxHeartbeats 1000000 in
theorem with_byte (w : World) (s : ByteArray) (o : Nat) (d : ByteArray) (hs : s.size ≤ 1000) (h : o + d.size ≤ s.size) :
    Calls Try.prog 27 #[.string s, .int .i64 (o : Int), .string d] w fun e w' => ∃ t : ByteArray, e = .returned (.string t) ∧ t.size ≤ 1000 ∧ Below w.heap.size w w' := by
  have h1 : (0 : Int) ≤ (o : Int) := by omega
  have h2 : (o : Int) ≤ (s.size : Int) := by omega
  have h3 : IntKind.i64.wrap ((o : Int) + (d.size : Int)) = (o : Int) + (d.size : Int) := by rw [IntKind.wrap_i64]; omega
  have h4 : (o : Int) + (d.size : Int) ≤ (s.size : Int) := by omega
  have h5 : (0 : Int) ≤ (o : Int) + (d.size : Int) := by omega
  have hz1 : (s.extract 0 o).size = o := by simp; omega
  have hz2 : (s.extract (o + d.size) s.size).size = s.size - (o + d.size) := by simp
  have h6 : (s.extract 0 o).size + d.size ≤ 1048576 := by omega
  have h7 : (s.extract 0 o ++ d).size + (s.extract (o + d.size) s.size).size ≤ 1048576 := by rw [ByteArray.size_append]; omega
  have HZ : Hid ((s.extract 0 o ++ d ++ s.extract (o + d.size) s.size).size ≤ 1000) := by
    show (s.extract 0 o ++ d ++ s.extract (o + d.size) s.size).size ≤ 1000
    rw [ByteArray.size_append, ByteArray.size_append]; omega
  go_enter Try.func27, Try.ntmps27
  go_wp2
  go_region
  all_goals
    go_wp2
    go_ret
    exact ⟨_, rfl, HZ.out, by first | exact Below.refl _ _ | exact (Below.refl _ _).drew | go_grown⟩
/-- Types and bytes that are drawn. -/
def RoDrawn (w : World) (e : Ending) (w' : World) : Prop :=
  ∃ (at' : Option Addr) (gt ct : Nat) (ts : List ByteArray) (b : ByteArray), e = .returned (.tuple #[.slice at' ts.length ct, .string b]) ∧ (ts.length ≤ 3 ∧ ∀ x ∈ ts, x.size ≤ 23) ∧ b.size ≤ 1000 ∧ Txts w' at' gt ts ∧ Below w.heap.size w w'
set_option maxHeartbeats 4000000 in
set_option maxRecDepth 20000 in
theorem draw_readobject (w : World) (a : Option Addr) (len cap : Nat) (hs : len ≤ 1048576) (hc : RdCode w w.heap.size a len) :
    Calls Try.prog 8 #[.slice a len cap] w fun e w' => RoDrawn w e w' := by
  have HC : Hid (RdCode w w.heap.size a len) := hc
  clear hc
  go_enter Try.func8, Try.ntmps8
  go_wp2_with fail
  refine (open_any _ a len cap hs HC.out).mono ?_
  rintro x w1 ⟨rfl, hr1, hb1⟩
  obtain ⟨R, hR⟩ : ∃ R, R = w.heap.size := ⟨_, rfl⟩
  rw [← hR] at hr1 hb1 ⊢
  have HRE : Hid (R = w.heap.size) := hR
  have HR1 : Hid (Rd w1 R a len cap) := hr1
  have HB1 : Hid (Below R w w1) := hb1
  clear hr1 hb1 hR
  go_wp2_with fail
  refine (types_any2 _ R a len cap HR1.out).mono ?_
  rintro e w2 ⟨tv, rfl, ts, ht1, ht3, ht23, hown2, hr2, hb2⟩
  obtain ⟨ta, tg, tc, rfl, htg, hTx⟩ := txts_of_row hown2
  have hRs := HR1.out.size
  have HTG : Hid (tg ≠ R) := by show tg ≠ R; omega
  have HTS : Hid (ts.length ≤ 3 ∧ ∀ x ∈ ts, 1 ≤ x.size ∧ x.size ≤ 23) := ⟨ht3, ht23⟩
  have HR2 : Hid (Rd w2 R a len cap) := hr2
  have HB2 : Hid (Below R w w2) := below_of HB1.out hb2 (Nat.le_refl _) (by omega)
  have HTX2 : Hid (Txts w2 ta tg ts) := hTx
  have HOB : Hid (Calls Try.prog 24 #[.pointer (some ⟨R, 0, none⟩), .slice ta ts.length tc] w2 fun e w' => ObAns w2 R a len cap e w') := obj_any w2 R a len cap hr2 ta tg tc ts hTx (by omega) ht1 ht3 ht23
  obtain ⟨nt, hnt⟩ : ∃ n, n = ts.length := ⟨_, rfl⟩
  rw [← hnt] at HOB ⊢
  have HNE : Hid (ts.length = nt) := hnt.symm
  clear hr2 hb2 hown2 hTx ht1 ht3 ht23 htg hRs hnt
  go_wp2_with fail
  refine HOB.out.mono ?_
  rintro e w3 ⟨t, ov, rfl, ht, os, hol, how, hoo, hr3, hb3⟩
  obtain ⟨oa, og, oc, rfl, _, hio⟩ := ints_of_row hoo
  have HR3 : Hid (Rd w3 R a len cap) := hr3
  have HB3 : Hid (Below R w w3) := below_of HB2.out hb3 (Nat.le_refl _) (by have := HR2.out.size; omega)
  have HTX3 : Hid (Txts w3 ta tg ts) := HTX2.out.grown hb3 (fun _ => HTG.out)
  have hzz : ∀ i (hi : i < ts.length), ts[i].size ≤ 1048576 := fun i hi => by have := (HTS.out.2 _ (List.getElem_mem hi)).2; omega
  have HSO : Hid (Calls Try.prog 11 #[.slice ta nt tc, .agg #[.int .i64 t, .slice oa os.length oc]] w3 fun e w' => e = .returned (.string (objStr ts t os)) ∧ Below w3.heap.size w3 w') := by
    have h1 := spec_objbytes w3 ta tc ts t oa oc os (by have := HTS.out.1; omega) hzz HTX3.out.strs hio.nums (fun x hx => by have := how x hx; simp [Lit.wf] at this; omega)
    rw [HNE.out] at h1
    exact h1
  have hsl := objStr_le ts t os
  generalize objStr ts t os = l at HSO hsl
  clear hr3 hb3 hoo hio how hol ht hzz HOB HB2 HR2 HTX2
  go_wp2_with fail
  refine HSO.out.mono ?_
  rintro e w4 ⟨rfl, hb4⟩
  have HR4 : Hid (Rd w4 R a len cap) := HR3.out.later hb4
  have HB4 : Hid (Below R w w4) := HB3.out.trans (hb4.mono (by have := HR3.out.size; omega))
  have HTX4 : Hid (Txts w4 ta tg ts) := HTX3.out.below hb4
  clear hb4 HSO HR3 HB3 HTX3
  have HEN : Hid (∀ (W : World) (b : ByteArray), b.size ≤ 1000 → Txts W ta tg ts → Below R w W → RoDrawn w (.returned (.tuple #[.slice ta nt tc, .string b])) W) := fun W b hb hT hB => by
    rw [← HNE.out]
    exact ⟨ta, tg, tc, ts, b, rfl, ⟨HTS.out.1, fun x hx => (HTS.out.2 x hx).2⟩, hb, hT, by rw [← HRE.out]; exact hB⟩
  go_wp2_with fail
  refine (below_pos _ _ a len cap HR4.out 6 (by omega) (by omega)).mono ?_
  rintro e w5 ⟨u, rfl, hu, hr5, hb5⟩
  have HR5 : Hid (Rd w5 R a len cap) := hr5
  have HB5 : Hid (Below R w w5) := below_of HB4.out hb5 (Nat.le_refl _) (by have := HR4.out.size; omega)
  have HTX5 : Hid (Txts w5 ta tg ts) := HTX4.out.grown hb5 (fun _ => HTG.out)
  clear hr5 hb5 HR4 HB4 HTX4
  by_cases h0 : u = 0
  · subst h0
    have HHA : Hid (∀ W, Rd W R a len cap → Calls Try.prog 26 #[.pointer (some ⟨R, 0, none⟩), .string l] W fun e w' => ∃ t : ByteArray, e = .returned (.string t) ∧ t.size ≤ l.size + 1 ∧ Rd w' R a len cap ∧ W.grownBy w' (some R)) := fun W h => hurt_any W R a len cap h l (by omega)
    go_wp2_with fail
    refine (HHA.out _ HR5.out).mono ?_
    rintro e w6 ⟨b, rfl, hbs, _, hb6⟩
    have HE : Hid (RoDrawn w _ w6) := HEN.out w6 b (by omega) (HTX5.out.grown hb6 (fun _ => HTG.out)) (below_of HB5.out hb6 (Nat.le_refl _) (by have := HR5.out.size; omega))
    clear hb6
    go_wp2
    refine bodyPost_ret (v := .tuple #[.slice ta nt tc, .string b]) ?_ rfl HE.out
    simp [results, Try.results8, go_sem]
  have e0 : ((u : Int) == 0) = false := by simp; omega
  by_cases h1 : u = 1
  · subst h1
    clear h0 e0
    by_cases hl0 : l.size = 0
    · have hne : l = ⟨#[]⟩ := wb.bytes_of (by
        have h9 : l.data.toList.length = 0 := by simpa using hl0
        exact List.eq_nil_of_length_eq_zero h9)
      have HE : Hid (RoDrawn w _ w5) := HEN.out w5 l (by omega) HTX5.out HB5.out
      subst hne
      go_wp2
      refine bodyPost_ret (v := .tuple #[.slice ta nt tc, .string ⟨#[]⟩]) ?_ rfl HE.out
      simp [results, Try.results8, go_sem]
    · have hem : l.toList.isEmpty = false := by rw [ByteArray.toList_eq, ← Bool.not_eq_true, List.isEmpty_iff_length_eq_zero]; simpa using hl0
      have HWI : Hid (∀ (W : World) (p : Nat) (x : Int), p < l.size → Calls Try.prog 27 #[.string l, .int .i64 (p : Int), .string (strOfNums [x])] W fun e w' => ∃ t : ByteArray, e = .returned (.string t) ∧ t.size ≤ 1000 ∧ Below W.heap.size W w') := fun W p x hp => with_byte W l p (strOfNums [x]) (by omega) (by rw [strOfNums_size]; simp; omega)
      have HLS : Hid (1 ≤ l.size ∧ l.size ≤ 192) := ⟨by omega, hsl⟩
      have hcv : ∀ (w : World) (T : TypeId) (x : Int), (convert 22 9 (.slice (some ⟨w.heap.size, 0, none⟩) 1 1)).run Try.prog (w.alloc (.cells #[.int .u8 x] T)) = .ok (.string (strOfNums [x])) (w.alloc (.cells #[.int .u8 x] T)) := fun w T x => by simpa using conv.conv_at w T [x] 1 1 (by simp)
      clear hl0 hsl
      go_wp2_with fail
      refine (below_pos _ R a len cap HR5.out (l.size : Int) (by have := HLS.out; omega) (by have := HLS.out; omega)).mono ?_
      rintro x w6 ⟨p, rfl, hp, hr, hb⟩
      have HR6 : Hid (Rd w6 R a len cap) := hr
      have HB6 : Hid (Below R w w6) := below_of HB5.out hb (Nat.le_refl _) (by have := HR5.out.size; omega)
      have HT6 : Hid (Txts w6 ta tg ts) := HTX5.out.grown hb (fun _ => HTG.out)
      have HP : Hid (p < l.size) := by show p < l.size; omega
      clear hr hb hp
      go_wp2_with fail
      refine (below_pos _ R a len cap HR6.out 4 (by omega) (by omega)).mono ?_
      rintro x w7 ⟨q, rfl, hq, hr, hb⟩
      have HB7 : Hid (Below R w w7) := below_of HB6.out hb (Nat.le_refl _) (by have := HR6.out.size; omega)
      have HT7 : Hid (Txts w7 ta tg ts) := HT6.out.grown hb (fun _ => HTG.out)
      have HS7 : Hid (R ≤ w7.heap.size) := by have := hr.size; show R ≤ w7.heap.size; omega
      clear hr hb
      go_wp2_with fail
      refine (HWI.out _ _ _ HP.out).mono ?_
      rintro x w8 ⟨b, rfl, hbs, hb⟩
      have HE : Hid (RoDrawn w _ w8) := HEN.out w8 b hbs ((HT7.out.below ((Below.refl _ _).alloc (Nat.le_refl _) _)).below hb) ((HB7.out.alloc HS7.out _).trans (hb.mono (by have := HS7.out; simp; omega)))
      clear hb hbs
      go_wp2
      refine bodyPost_ret (v := .tuple #[.slice ta nt tc, .string b]) ?_ rfl HE.out
      simp [results, Try.results8, go_sem]
  have e1 : ((u : Int) == 1) = false := by simp; omega
  by_cases h2 : u = 2
  · subst h2
    have h64 : l.size + (nulls 64).size ≤ 1048576 := by rw [nulls_size]; omega
    have HZ : Hid (∀ W, Calls Try.prog 28 #[.int .i64 64] W fun e w' => e = .returned (.string (nulls 64)) ∧ Below W.heap.size W w') := fun W => zeros_any 64 (by omega) W
    have HZS : Hid ((l ++ nulls 64).size ≤ 1000) := by show (l ++ nulls 64).size ≤ 1000; rw [ByteArray.size_append, nulls_size]; omega
    generalize nulls 64 = z at h64 HZ HZS
    go_wp2_with fail
    refine (HZ.out _).mono ?_
    rintro e w6 ⟨rfl, hb6⟩
    have HE : Hid (RoDrawn w _ w6) := HEN.out w6 (l ++ z) HZS.out (HTX5.out.below hb6) (HB5.out.trans (hb6.mono (by have := HR5.out.size; omega)))
    clear hb6
    go_wp2
    refine bodyPost_ret (v := .tuple #[.slice ta nt tc, .string (l ++ z)]) ?_ rfl HE.out
    simp [results, Try.results8, go_sem]
  have e2 : ((u : Int) == 2) = false := by simp; omega
  have HE : Hid (RoDrawn w _ w5) := HEN.out w5 l (by omega) HTX5.out HB5.out
  clear h0 h1 h2
  go_wp2
  refine bodyPost_ret (v := .tuple #[.slice ta nt tc, .string l]) ?_ rfl HE.out
  simp [results, Try.results8, go_sem]
end Go.Proofs.Ytnacdfoejmjlgaa.rd
