/-
  A value is set in a young object, by the program.
-/
import Derived.Test.YtmnmkbhfilfifaaYSpec4
namespace Go.Proofs.Ytmnmkbhfilfifaa.nu
open Go.RowKit Go.Maps
open kinds ints ref obj

/-- Whether a value may be set. -/
def setB (xs : List ByteArray) (ws : List Int) (L : List Nat) (r i v : Int) : Bool := yobB L r && (placeB (yobV xs ws L r).length i && (!isR (kdH xs (ws.getD (r / 2).toNat 0)) i.toNat || namedB L v))
def setZ (xs : List ByteArray) (z : Int) (ws : List Int) (L : List Nat) (r i v : Int) : Int := if setB xs ws L r i v = true then z else 0
def setW (xs : List ByteArray) (ws : List Int) (L : List Nat) (r i v : Int) : List Int := if setB xs ws L r i v = true then ws.set ((r / 2).toNat + 1 + i.toNat) v else []
theorem setW_len (xs : List ByteArray) (ws : List Int) (L : List Nat) (r i v : Int) : (setW xs ws L r i v).length ≤ ws.length := by
  unfold setW
  split
  · simp
  · simp
/-- What setting answers. -/
def SetAns (xs : List ByteArray) (z : Int) (ws : List Int) (r i v : Int) (w : World) (e : Ending) (w' : World) : Prop :=
  AOut (fun s => .tuple #[.agg #[.int .i64 (setZ xs z ws (startsN xs z ws) r i v), s], .bool (setB xs ws (startsN xs z ws) r i v)]) (setW xs ws (startsN xs z ws) r i v) w e w'
theorem set_no {xs : List ByteArray} {z : Int} {ws : List Int} {r i v : Int} {w : World} {e : Ending} {w' : World} (h : setB xs ws (startsN xs z ws) r i v = false) (he : e = .returned (.tuple #[.agg #[.int .i64 0, .slice none 0 0], .bool false])) (hb : Below w.heap.size w w') : SetAns xs z ws r i v w e w' := by
  unfold SetAns setZ setW
  rw [h]
  exact aout_none he hb
theorem set_yes {xs : List ByteArray} {z : Int} {ws : List Int} {r i v : Int} {w : World} {e : Ending} {w' : World} {A : Nat} (hA : A = (r / 2).toNat + 1 + i.toNat) (h : setB xs ws (startsN xs z ws) r i v = true) (he : AOut (fun s => .tuple #[.agg #[.int .i64 z, s], .bool true]) (ws.set A v) w e w') : SetAns xs z ws r i v w e w' := by
  unfold SetAns setZ setW
  rw [h, if_pos rfl, if_pos rfl, ← hA]
  exact he
/-- What is known of a reference to an object of a right nursery. -/
theorem yob_more {xs : List ByteArray} {z : Int} {ws : List Int} {r : Int} (h : yobB (startsN xs z ws) r = true) : ∃ aa p : Nat, ∃ hp : p < xs.length, r / 2 = (aa : Int) ∧ (r / 2).toNat = aa ∧ refKind r = 2 ∧ 1 ≤ r ∧ r ≤ 799 ∧ yobT ws (startsN xs z ws) r = (p : Int) ∧ (yobV xs ws (startsN xs z ws) r).length = xs[p].size ∧ kdH xs (ws.getD (r / 2).toNat 0) = xs[p] ∧ 1 ≤ xs[p].size ∧ xs[p].size ≤ 23 ∧ aa + 1 + xs[p].size ≤ ws.length ∧ ws.length ≤ 400 := by
  obtain ⟨aa, hae, ham, hk, h1, h2⟩ := yob_facts h
  have hgd := starts_step xs z ws aa ham
  obtain ⟨hh0, hpb, hfit, _⟩ := stepN_le hgd
  obtain ⟨p, hpe, hpl⟩ := placeB_nat hpb
  have hkd := kdH_at hpl hpe
  have hvl := valsA_len hgd
  rw [hkd] at hvl hfit
  obtain ⟨htp, _, hz4, hzl⟩ := preN_facts (nurB_found (starts_good ham)).1
  have hsz : 1 ≤ xs[p].size ∧ xs[p].size ≤ 23 := by
    have h1 := htp
    unfold typesOk at h1
    rw [Bool.and_eq_true, List.all_eq_true] at h1
    exact isType_size (h1.2 _ (List.getElem_mem hpl))
  have hrn : (r / 2).toNat = aa := by omega
  refine ⟨aa, p, hpl, hae, hrn, hk, h1, h2, ?_, ?_, by rw [hrn]; exact hkd, hsz.1, hsz.2, hfit, by omega⟩
  · unfold yobT; rw [h, if_pos rfl, hrn, hpe]
  · unfold yobV; rw [h, if_pos rfl, hrn, hvl]
theorem boxT (T : TypeId) (w : World) (z : Int) (a2 : Option Addr) (n vcap : Nat) (W : World) (hW : W = (w.alloc (.cells #[.int .i64 z, .slice a2 n vcap] 30)).alloc (.cells #[.int .i64 0, .slice none 0 0] T)) :
    Below w.heap.size w W ∧ W.heap.size = w.heap.size + 2 ∧ W.cell? ⟨w.heap.size, 0, none⟩ = some (.int .i64 z) ∧ W.cell? ⟨w.heap.size, 1, none⟩ = some (.slice a2 n vcap) ∧ W.cell? ⟨w.heap.size + 1, 0, none⟩ = some (.int .i64 0) ∧ W.cell? ⟨w.heap.size + 1, 1, none⟩ = some (.slice none 0 0) ∧ ∀ k, W.frozen? ⟨w.heap.size + 1, k, none⟩ = false := by
  subst hW
  refine ⟨((Below.refl _ _).alloc (Nat.le_refl _) _).alloc (by simp) _, by simp, ?_, ?_, ?_, ?_, fun k => by rw [World.frozen?_alloc_at _ _ _ _ (by simp)]⟩
  · rw [World.cell?_alloc_past _ _ _ (by simp), World.cell?_alloc_at _ _ _ _ (by simp)]; rfl
  · rw [World.cell?_alloc_past _ _ _ (by simp), World.cell?_alloc_at _ _ _ _ (by simp)]; rfl
  · rw [World.cell?_alloc_at _ _ _ _ (by simp)]; rfl
  · rw [World.cell?_alloc_at _ _ _ _ (by simp)]; rfl
set_option maxHeartbeats 600000 in
set_option maxRecDepth 20000 in
theorem impl_yset (w : World) (a : Option Addr) (cap : Nat) (xs : List ByteArray) (z : Int) (a2 : Option Addr) (n vcap : Nat) (ws : List Int) (r i v : Int) (hr : r < 9223372036854775808) (hv63 : v < 9223372036854775808) (hx : ws.length = n) (hxn : xs.length ≤ 1048576) (hl : Strs w a xs) (hz : ∀ i (hi : i < xs.length), xs[i].size ≤ 1048576) (hn : n ≤ 1048576) (hcap : n ≤ vcap) (hv : Nums w a2 ws) (hh : ∀ x ∈ ws, x < 9223372036854775808) :
    Calls Try.prog 37 #[.slice a xs.length cap, .agg #[.int .i64 z, .slice a2 n vcap], .int .i64 r, .int .i64 i, .int .i64 v] w fun e w' => SetAns xs z ws r i v w e w' := by
  obtain ⟨W, hW⟩ : ∃ W, W = (w.alloc (.cells #[.int .i64 z, .slice a2 n vcap] 30)).alloc (.cells #[.int .i64 0, .slice none 0 0] 30) := ⟨_, rfl⟩
  have HW : Hid (W = (w.alloc (.cells #[.int .i64 z, .slice a2 n vcap] 30)).alloc (.cells #[.int .i64 0, .slice none 0 0] 30)) := hW
  obtain ⟨hb0, hsz, c0, c1, r0, r1, rf⟩ := boxT _ w z a2 n vcap W hW
  have HK : Hid (∀ w', Below W.heap.size W w' → w'.cell? ⟨w.heap.size, 0, none⟩ = some (.int .i64 z) ∧ w'.cell? ⟨w.heap.size, 1, none⟩ = some (.slice a2 n vcap)) := fun w' h =>
    ⟨by rw [h.cell (p := ⟨w.heap.size, 0, none⟩) (by show w.heap.size < _; omega)]; exact c0, by rw [h.cell (p := ⟨w.heap.size, 1, none⟩) (by show w.heap.size < _; omega)]; exact c1⟩
  have HRC : Hid (∀ w', Below W.heap.size W w' → w'.cell? ⟨w.heap.size + 1, 0, none⟩ = some (.int .i64 0) ∧ w'.cell? ⟨w.heap.size + 1, 1, none⟩ = some (.slice none 0 0) ∧ ∀ k, w'.frozen? ⟨w.heap.size + 1, k, none⟩ = false) := fun w' h =>
    ⟨by rw [h.cell (p := ⟨w.heap.size + 1, 0, none⟩) (by show w.heap.size + 1 < _; omega)]; exact r0, by rw [h.cell (p := ⟨w.heap.size + 1, 1, none⟩) (by show w.heap.size + 1 < _; omega)]; exact r1, fun k => by rw [h.frozen (p := ⟨w.heap.size + 1, k, none⟩) (by show w.heap.size + 1 < _; omega)]; exact rf k⟩
  have HB0 : Hid (Below w.heap.size w W) := hb0
  have HSZ : Hid (W.heap.size = w.heap.size + 2) := hsz
  have hlW := hl.below hb0
  have hvW := hv.below hb0
  have HLS : Hid (∀ w', Below W.heap.size W w' → Strs w' a xs) := fun w' h => hlW.below h
  have HNU : Hid (∀ w', Below W.heap.size W w' → Nums w' a2 ws) := fun w' h => hvW.below h
  have HOP : Hid (Calls _ _ _ W _) := opened_any W a cap xs z a2 n vcap ws hx hxn hlW hz hn hcap hvW hh
  have HX : Hid (ws.length = n) := hx
  have HR63 : Hid (r < 9223372036854775808) := hr
  have HV63 : Hid (v < 9223372036854775808) := hv63
  have HNO : Hid (∀ {e : Ending} {w' : World}, setB xs ws (startsN xs z ws) r i v = false → e = .returned (.tuple #[.agg #[.int .i64 0, .slice none 0 0], .bool false]) → Below w.heap.size w w' → SetAns xs z ws r i v w e w') := fun h he hb => set_no h he hb
  have HSB : Hid (setB xs ws (startsN xs z ws) r i v = (yobB (startsN xs z ws) r && (placeB (yobV xs ws (startsN xs z ws) r).length i && (!isR (kdH xs (ws.getD (r / 2).toNat 0)) i.toNat || namedB (startsN xs z ws) v)))) := rfl
  have HPI : Hid (∀ (m : Nat) (w : World), Calls _ _ _ w _) := fun m w => isPlace_any w i m
  clear hW hl hv hb0 hx hh hz hsz r0 r1 rf hlW hvW hr hv63
  go_enter Try.func37, Try.ntmps37
  go_wp2_with (rw [← HW.out])
  refine HOP.out.mono ?_
  rintro e w2 ⟨hb2, ta, tn, tc, sa, sc, mo, rfl, _, hlk, _, _⟩
  obtain ⟨Y, hY⟩ : ∃ Y, Y = w2.alloc (.cells #[.slice ta tn tc, .slice sa (startsN xs z ws).length sc, .map mo] 64) := ⟨_, rfl⟩
  obtain ⟨yb, hyb⟩ : ∃ yb, yb = w2.heap.size := ⟨_, rfl⟩
  have HY : Hid (Y = w2.alloc (.cells #[.slice ta tn tc, .slice sa (startsN xs z ws).length sc, .map mo] 64)) := hY
  have HYB : Hid (yb = w2.heap.size) := hyb
  have hbY : Below w2.heap.size w2 Y := by rw [hY]; exact (Below.refl _ _).alloc (Nat.le_refl _) _
  have htY : Tri yb (.slice ta tn tc) (.slice sa (startsN xs z ws).length sc) (.map mo) Y := by rw [hY, hyb]; exact Tri.start w2 _ _ _ _
  have hWY : Below W.heap.size W Y := hb2.trans (hbY.mono hb2.size)
  have HWY : Hid (Below W.heap.size W Y) := hWY
  have hlY := hlk.below hbY
  have HLY : Hid (∀ w', Below Y.heap.size Y w' → Looks w' W.heap.size (.map mo) xs ws (startsN xs z ws)) := fun w' h => hlY.below h
  have HTY : Hid (∀ w', Below Y.heap.size Y w' → Tri yb (.slice ta tn tc) (.slice sa (startsN xs z ws).length sc) (.map mo) w') := fun w' h => htY.below h
  have HOB : Hid (Calls _ _ _ Y _) := objectOf_any Y (.slice ta tn tc) (.slice sa (startsN xs z ws).length sc) mo W.heap.size xs ws (startsN xs z ws) r HR63.out hlY (hWY.size) ⟨_, _, _, _, _, _, rfl, rfl⟩
  obtain ⟨t0, t1, t2, _⟩ := htY
  clear hb2 hY hyb hbY hlk hlY hWY c0 c1
  have HVE : Hid (∀ (w3 V : World) (x0 x1 x2 : Value), Below Y.heap.size Y w3 → V = w3.alloc (.cells #[x0, x1, x2] 71) → Tri w3.heap.size x0 x1 x2 V ∧ Below Y.heap.size Y V ∧ Below W.heap.size W V) := fun w3 V x0 x1 x2 h hV => by
    have hbV : Below w3.heap.size w3 V := by rw [hV]; exact (Below.refl _ _).alloc (Nat.le_refl _) _
    have h1 := h.trans (hbV.mono h.size)
    exact ⟨by rw [hV]; exact Tri.start w3 _ _ _ _, h1, HWY.out.trans (h1.mono HWY.out.size)⟩
  by_cases hb : yobB (startsN xs z ws) r = true
  case neg =>
    have hbf : yobB (startsN xs z ws) r = false := by simpa using hb
    have HF : Hid (setB xs ws (startsN xs z ws) r i v = false) := by show setB _ _ _ _ _ _ = false; rw [HSB.out, hbf]; rfl
    rw [hbf] at HOB
    clear hb hbf HSB
    go_wp2_with (first | (rw [← HY.out, ← HYB.out]) | (rw [← HY.out]))
    refine HOB.out.mono ?_
    rintro e w3 ⟨a3, g3, c3, rfl, _, _, hb3⟩
    obtain ⟨V, hV⟩ : ∃ V, V = w3.alloc (.cells #[.int .i64 (yobAge ws (startsN xs z ws) r), .int .i64 (yobT ws (startsN xs z ws) r), .slice a3 (yobV xs ws (startsN xs z ws) r).length c3] 71) := ⟨_, rfl⟩
    obtain ⟨vb, hvb⟩ : ∃ vb, vb = w3.heap.size := ⟨_, rfl⟩
    have HV : Hid (V = w3.alloc (.cells #[.int .i64 (yobAge ws (startsN xs z ws) r), .int .i64 (yobT ws (startsN xs z ws) r), .slice a3 (yobV xs ws (startsN xs z ws) r).length c3] 71)) := hV
    have HVB : Hid (vb = w3.heap.size) := hvb
    have HVW : Hid (Below W.heap.size W V) := (HVE.out w3 V _ _ _ hb3 hV).2.2
    clear t0 t1 t2 hb3 hV hvb
    obtain ⟨r0, r1, rf⟩ := HRC.out V HVW.out
    have z0 := rf 0
    have z1 := rf 1
    have HP2 : Hid (∀ x0 x1, _) := pair_set r0 r1
    have HBE : Hid (∀ x0 x1, Below w.heap.size w ((V.setCell ⟨w.heap.size + 1, 0, none⟩ x0).setCell ⟨w.heap.size + 1, 1, none⟩ x1)) := fun x0 x1 => ((HB0.out.trans (HVW.out.mono HB0.out.size)).setCell (p := ⟨w.heap.size + 1, 0, none⟩) (by show w.heap.size ≤ w.heap.size + 1; omega) _).setCell (p := ⟨w.heap.size + 1, 1, none⟩) (by show w.heap.size ≤ w.heap.size + 1; omega) _
    clear rf
    go_wp2_with (first | (rw [← HV.out, ← HVB.out]) | (rw [← HV.out]))
    refine bodyPost_ret (v := .tuple #[.agg #[.int .i64 0, .slice none 0 0], .bool false]) ?_ rfl (HNO.out HF.out rfl (HBE.out _ _))
    obtain ⟨q0, q1⟩ := HP2.out (.int .i64 0) (.slice none 0 0)
    simp [results, Try.results37, go_sem, q0, q1]
  case pos =>
  obtain ⟨aa, p, hpl, hae, hrn, hk2, hr1, hr2, hyT, hyV, hkd, hs1, hs23, hfit, hw4⟩ := yob_more (xs := xs) (z := z) (ws := ws) hb
  rw [hb, hyT] at HOB
  rw [hb, hkd] at HSB
  have HYV : Hid ((yobV xs ws (startsN xs z ws) r).length = xs[p].size) := hyV
  rw [hyV] at HSB HOB
  have HPO : Hid (∀ w : World, Calls Try.prog 61 #[.int .i64 r] w fun e w' => e = .returned (.int .i64 (aa : Int)) ∧ Below w.heap.size w w') := fun w => by
    have h1 := implPlaceOf r w HR63.out
    have h2 : placeOf r = (aa : Int) := by unfold placeOf; rw [hk2, if_neg (by decide), hae]
    rw [h2] at h1
    exact h1
  generalize yobAge ws (startsN xs z ws) r = ag at HOB
  obtain ⟨b9, o9, ha9, hx9⟩ := HNU.out W (Below.refl _ _) 0 (by omega)
  clear hx9
  subst ha9
  have hn4 : n ≤ 400 := by have := HX.out; omega
  have hfn : aa + 1 + xs[p].size ≤ n := by have := HX.out; omega
  have HSC : Hid (∀ w', Below W.heap.size W w' → ∃ b2 o2, a = some ⟨b2, o2, none⟩ ∧ w'.cell? ⟨b2, o2 + p, none⟩ = some (.string xs[p])) := fun w' h => HLS.out w' h p hpl
  have HYE : Hid (∀ {e : Ending} {w' : World} {A : Nat}, setB xs ws (startsN xs z ws) r i v = true ∧ A = (r / 2).toNat + 1 + i.toNat → AOut (fun s => .tuple #[.agg #[.int .i64 z, s], .bool true]) (ws.set A v) w e w' → SetAns xs z ws r i v w e w') := fun h he => set_yes h.2 h.1 he
  have hpi : (p : Int) < (xs.length : Int) := by omega
  have hp0 : (0 : Int) ≤ (p : Int) := by omega
  have HRN : Hid ((r / 2).toNat = aa) := hrn
  clear hae hrn hk2 hr1 hr2 hyT hyV hkd hfit hw4 hb HYV
  generalize xs[p] = s at HOB HSB HSC hs1 hs23 hfn
  clear hpl
  go_wp2_with (first | (rw [← HY.out, ← HYB.out]) | (rw [← HY.out]))
  refine HOB.out.mono ?_
  rintro e w3 ⟨a3, g3, c3, rfl, _, _, hb3⟩
  obtain ⟨V, hV⟩ : ∃ V, V = w3.alloc (.cells #[.int .i64 ag, .int .i64 (p : Int), .slice a3 s.size c3] 71) := ⟨_, rfl⟩
  obtain ⟨vb, hvb⟩ : ∃ vb, vb = w3.heap.size := ⟨_, rfl⟩
  have HV : Hid (V = w3.alloc (.cells #[.int .i64 ag, .int .i64 (p : Int), .slice a3 s.size c3] 71)) := hV
  have HVB : Hid (vb = w3.heap.size) := hvb
  obtain ⟨htV, hYV, hWV⟩ := HVE.out w3 V _ _ _ hb3 hV
  rw [← hvb] at htV
  have HVW : Hid (Below W.heap.size W V) := hWV
  have HYV : Hid (Below Y.heap.size Y V) := hYV
  have HPI2 : Hid (∀ w : World, Calls _ _ _ w _) := fun w => HPI.out s.size w
  clear t0 t1 t2 hb3 hV hvb hWV hYV HOB HPI
  obtain ⟨y0, y1, y2, _⟩ := htV
  cases hpl : placeB s.size i with
  | false =>
    have HF : Hid (setB xs ws (startsN xs z ws) r i v = false) := by show setB _ _ _ _ _ _ = false; rw [HSB.out, hpl]; rfl
    rw [hpl] at HPI2
    clear hpl HSB
    go_wp2_with (first | (rw [← HV.out, ← HVB.out]) | (rw [← HV.out]))
    refine (HPI2.out V).mono ?_
    rintro e w4 ⟨rfl, hw4⟩
    have hw5 := hw4.symm
    subst hw5
    clear hw4
    obtain ⟨r0, r1, rf⟩ := HRC.out _ HVW.out
    have z0 := rf 0
    have z1 := rf 1
    have HP2 : Hid (∀ x0 x1, _) := pair_set r0 r1
    have HBE : Hid (∀ x0 x1, Below w.heap.size w ((V.setCell ⟨w.heap.size + 1, 0, none⟩ x0).setCell ⟨w.heap.size + 1, 1, none⟩ x1)) := fun x0 x1 => ((HB0.out.trans (HVW.out.mono HB0.out.size)).setCell (p := ⟨w.heap.size + 1, 0, none⟩) (by show w.heap.size ≤ w.heap.size + 1; omega) _).setCell (p := ⟨w.heap.size + 1, 1, none⟩) (by show w.heap.size ≤ w.heap.size + 1; omega) _
    clear rf
    go_wp2
    refine bodyPost_ret (v := .tuple #[.agg #[.int .i64 0, .slice none 0 0], .bool false]) ?_ rfl (HNO.out HF.out rfl (HBE.out _ _))
    obtain ⟨q0, q1⟩ := HP2.out (.int .i64 0) (.slice none 0 0)
    simp [results, Try.results37, go_sem, q0, q1]
  | true =>
  obtain ⟨j, rfl, hjs⟩ := placeB_nat hpl
  rw [hpl] at HPI2 HSB
  rw [Int.toNat_natCast] at HSB
  obtain ⟨b2, o2, rfl, s0⟩ := HSC.out V HVW.out
  have hIR := isR_at s j hjs
  have hjsi : (j : Int) < (s.size : Int) := by omega
  have hj0 : (0 : Int) ≤ (j : Int) := by omega
  obtain ⟨A, hA⟩ : ∃ A, A = aa + 1 + j := ⟨_, rfl⟩
  have haa4 : aa ≤ 400 := by omega
  have hj23 : j ≤ 23 := by omega
  have htn : ((aa : Int) + 1 + (j : Int)).toNat = A := by omega
  have hti : (aa : Int) + 1 + (j : Int) < (n : Int) := by omega
  have ht0 : (0 : Int) ≤ (aa : Int) + 1 + (j : Int) := by omega
  have hAi : (A : Int) < (n : Int) := by omega
  have hA0 : (0 : Int) ≤ (A : Int) := by omega
  have HAN2 : Hid (A < n) := by show A < n; omega
  have HAE : Hid (A = (r / 2).toNat + 1 + ((j : Int)).toNat) := by show A = _; rw [HRN.out, Int.toNat_natCast]; exact hA
  clear hpl hA hfn hs1
  cases hir : isR s j with
  | false =>
    rw [hir] at hIR
    have HOKT : Hid (setB xs ws (startsN xs z ws) r (j : Int) v = true ∧ A = (r / 2).toNat + 1 + ((j : Int)).toNat) := ⟨by rw [HSB.out, hir]; rfl, HAE.out⟩
    clear hir HSB HAE
    go_wp2_with (first | (rw [← HV.out, ← HVB.out]) | (rw [← HV.out]))
    refine (HPI2.out V).mono ?_
    rintro e w4 ⟨rfl, hw4⟩
    have hw5 := hw4.symm
    subst hw5
    clear hw4
    obtain ⟨k0, k1⟩ := HK.out V HVW.out
    have HCL : Hid (Calls _ _ _ V _) := clone_any V (some ⟨b9, o9, none⟩) n vcap ws HX.out (by omega) hn (HNU.out V HVW.out)
    go_wp2_with fail
    refine HCL.out.mono ?_
    rintro e w5 ⟨g5, c5, rfl, hg5, hi5, hb5⟩
    have HW5 : Hid (Below W.heap.size W w5) := HVW.out.trans (hb5.mono HVW.out.size)
    have HI5 : Hid (Ints w5 (some ⟨g5, 0, none⟩) g5 ws) := hi5
    have HG5 : Hid (w.heap.size + 2 ≤ g5) := by show w.heap.size + 2 ≤ g5; have := HSZ.out; have := HVW.out.size; omega
    clear hb5 hi5 hg5 k0 k1 s0 y0 y1 y2
    go_wp2_with fail
    refine (HPO.out w5).mono ?_
    rintro e w6 ⟨rfl, hb6⟩
    have HW6 : Hid (Below W.heap.size W w6) := HW5.out.trans (hb6.mono HW5.out.size)
    have HI6 : Hid (Ints w6 (some ⟨g5, 0, none⟩) g5 ws) := HI5.out.below hb6
    obtain ⟨_, d5, f5⟩ := HI6.out A (by have := HX.out; have := HAN2.out; omega)
    obtain ⟨X, hX⟩ : ∃ X, X = w6.setCell ⟨g5, A, none⟩ (.int .i64 v) := ⟨_, rfl⟩
    have HX6 : Hid (X = w6.setCell ⟨g5, A, none⟩ (.int .i64 v)) := hX
    have HWX : Hid (Below W.heap.size W X) := by show Below _ _ _; rw [hX]; exact HW6.out.setCell (p := ⟨g5, A, none⟩) (by show W.heap.size ≤ g5; have := HG5.out; have := HSZ.out; omega) _
    have HIX : Hid (Ints X (some ⟨g5, 0, none⟩) g5 (ws.set A v)) := by show Ints _ _ _ _; rw [hX]; exact Ints.put HI6.out A v
    obtain ⟨k0, k1⟩ := HK.out X HWX.out
    obtain ⟨r0, r1, rf⟩ := HRC.out X HWX.out
    have z0 := rf 0
    have z1 := rf 1
    have HP2 : Hid (∀ x0 x1, _) := pair_set r0 r1
    have HBE : Hid (∀ x0 x1, Below w.heap.size w ((X.setCell ⟨w.heap.size + 1, 0, none⟩ x0).setCell ⟨w.heap.size + 1, 1, none⟩ x1)) := fun x0 x1 => ((HB0.out.trans (HWX.out.mono HB0.out.size)).setCell (p := ⟨w.heap.size + 1, 0, none⟩) (by show w.heap.size ≤ w.heap.size + 1; omega) _).setCell (p := ⟨w.heap.size + 1, 1, none⟩) (by show w.heap.size ≤ w.heap.size + 1; omega) _
    have HIE : Hid (∀ x0 x1, Ints ((X.setCell ⟨w.heap.size + 1, 0, none⟩ x0).setCell ⟨w.heap.size + 1, 1, none⟩ x1) (some ⟨g5, 0, none⟩) g5 (ws.set A v)) := fun x0 x1 => (HIX.out.grown (grown_set _ _ _ _) (by have := HG5.out; omega)).grown (grown_set _ _ _ _) (by have := HG5.out; omega)
    clear rf hb6 hX
    go_wp2_with (rw [← HX6.out])
    refine bodyPost_ret (v := .tuple #[.agg #[.int .i64 z, .slice (some ⟨g5, 0, none⟩) n c5], .bool true]) ?_ rfl (HYE.out HOKT.out ⟨_, g5, c5, by rw [List.length_set, HX.out], by have := HG5.out; omega, HIE.out _ _, HBE.out _ _⟩)
    obtain ⟨q0, q1⟩ := HP2.out (.int .i64 z) (.slice (some ⟨g5, 0, none⟩) n c5)
    simp [results, Try.results37, go_sem, q0, q1]
  | true =>
    rw [hir] at hIR
    have HMN : Hid (Calls _ _ _ V _) := mayName_any V (.slice ta tn tc) (.slice sa (startsN xs z ws).length sc) (.map mo) W.heap.size xs ws (startsN xs z ws) v HV63.out (HLY.out V HYV.out)
    obtain ⟨t0, t1, t2, _⟩ := HTY.out V HYV.out
    rw [hir] at HSB
    cases hnm : namedB (startsN xs z ws) v with
    | false =>
      have HF : Hid (setB xs ws (startsN xs z ws) r (j : Int) v = false) := by show setB _ _ _ _ _ _ = false; rw [HSB.out, hnm]; rfl
      rw [hnm] at HMN
      clear hir HSB HAE hnm
      go_wp2_with (first | (rw [← HV.out, ← HVB.out]) | (rw [← HV.out]))
      refine (HPI2.out V).mono ?_
      rintro e w4 ⟨rfl, hw4⟩
      have hw5 := hw4.symm
      subst hw5
      clear hw4
      go_wp2_with fail
      refine HMN.out.mono ?_
      rintro e w4 ⟨rfl, hb4⟩
      have HW4 : Hid (Below W.heap.size W w4) := HVW.out.trans (hb4.mono HVW.out.size)
      clear hb4 s0 y0 y1 y2 t0 t1 t2
      obtain ⟨r0, r1, rf⟩ := HRC.out w4 HW4.out
      have z0 := rf 0
      have z1 := rf 1
      have HP2 : Hid (∀ x0 x1, _) := pair_set r0 r1
      have HBE : Hid (∀ x0 x1, Below w.heap.size w ((w4.setCell ⟨w.heap.size + 1, 0, none⟩ x0).setCell ⟨w.heap.size + 1, 1, none⟩ x1)) := fun x0 x1 => ((HB0.out.trans (HW4.out.mono HB0.out.size)).setCell (p := ⟨w.heap.size + 1, 0, none⟩) (by show w.heap.size ≤ w.heap.size + 1; omega) _).setCell (p := ⟨w.heap.size + 1, 1, none⟩) (by show w.heap.size ≤ w.heap.size + 1; omega) _
      clear rf
      go_wp2
      refine bodyPost_ret (v := .tuple #[.agg #[.int .i64 0, .slice none 0 0], .bool false]) ?_ rfl (HNO.out HF.out rfl (HBE.out _ _))
      obtain ⟨q0, q1⟩ := HP2.out (.int .i64 0) (.slice none 0 0)
      simp [results, Try.results37, go_sem, q0, q1]
    | true =>
      have HOKT : Hid (setB xs ws (startsN xs z ws) r (j : Int) v = true ∧ A = (r / 2).toNat + 1 + ((j : Int)).toNat) := ⟨by rw [HSB.out, hnm]; rfl, HAE.out⟩
      rw [hnm] at HMN
      clear hir HSB HAE hnm
      go_wp2_with (first | (rw [← HV.out, ← HVB.out]) | (rw [← HV.out]))
      refine (HPI2.out V).mono ?_
      rintro e w4 ⟨rfl, hw4⟩
      have hw5 := hw4.symm
      subst hw5
      clear hw4
      go_wp2_with fail
      refine HMN.out.mono ?_
      rintro e w4 ⟨rfl, hb4⟩
      have HW4 : Hid (Below W.heap.size W w4) := HVW.out.trans (hb4.mono HVW.out.size)
      clear hb4 s0 y0 y1 y2 t0 t1 t2
      obtain ⟨k0, k1⟩ := HK.out w4 HW4.out
      have HCL : Hid (Calls _ _ _ w4 _) := clone_any w4 (some ⟨b9, o9, none⟩) n vcap ws HX.out (by omega) hn (HNU.out w4 HW4.out)
      go_wp2_with fail
      refine HCL.out.mono ?_
      rintro e w5 ⟨g5, c5, rfl, hg5, hi5, hb5⟩
      have HW5 : Hid (Below W.heap.size W w5) := HW4.out.trans (hb5.mono HW4.out.size)
      have HI5 : Hid (Ints w5 (some ⟨g5, 0, none⟩) g5 ws) := hi5
      have HG5 : Hid (w.heap.size + 2 ≤ g5) := by show w.heap.size + 2 ≤ g5; have := HSZ.out; have := HW4.out.size; omega
      clear hb5 hi5 hg5 k0 k1 
      go_wp2_with fail
      refine (HPO.out w5).mono ?_
      rintro e w6 ⟨rfl, hb6⟩
      have HW6 : Hid (Below W.heap.size W w6) := HW5.out.trans (hb6.mono HW5.out.size)
      have HI6 : Hid (Ints w6 (some ⟨g5, 0, none⟩) g5 ws) := HI5.out.below hb6
      obtain ⟨_, d5, f5⟩ := HI6.out A (by have := HX.out; have := HAN2.out; omega)
      obtain ⟨X, hX⟩ : ∃ X, X = w6.setCell ⟨g5, A, none⟩ (.int .i64 v) := ⟨_, rfl⟩
      have HX6 : Hid (X = w6.setCell ⟨g5, A, none⟩ (.int .i64 v)) := hX
      have HWX : Hid (Below W.heap.size W X) := by show Below _ _ _; rw [hX]; exact HW6.out.setCell (p := ⟨g5, A, none⟩) (by show W.heap.size ≤ g5; have := HG5.out; have := HSZ.out; omega) _
      have HIX : Hid (Ints X (some ⟨g5, 0, none⟩) g5 (ws.set A v)) := by show Ints _ _ _ _; rw [hX]; exact Ints.put HI6.out A v
      obtain ⟨k0, k1⟩ := HK.out X HWX.out
      obtain ⟨r0, r1, rf⟩ := HRC.out X HWX.out
      have z0 := rf 0
      have z1 := rf 1
      have HP2 : Hid (∀ x0 x1, _) := pair_set r0 r1
      have HBE : Hid (∀ x0 x1, Below w.heap.size w ((X.setCell ⟨w.heap.size + 1, 0, none⟩ x0).setCell ⟨w.heap.size + 1, 1, none⟩ x1)) := fun x0 x1 => ((HB0.out.trans (HWX.out.mono HB0.out.size)).setCell (p := ⟨w.heap.size + 1, 0, none⟩) (by show w.heap.size ≤ w.heap.size + 1; omega) _).setCell (p := ⟨w.heap.size + 1, 1, none⟩) (by show w.heap.size ≤ w.heap.size + 1; omega) _
      have HIE : Hid (∀ x0 x1, Ints ((X.setCell ⟨w.heap.size + 1, 0, none⟩ x0).setCell ⟨w.heap.size + 1, 1, none⟩ x1) (some ⟨g5, 0, none⟩) g5 (ws.set A v)) := fun x0 x1 => (HIX.out.grown (grown_set _ _ _ _) (by have := HG5.out; omega)).grown (grown_set _ _ _ _) (by have := HG5.out; omega)
      clear rf hb6 hX
      go_wp2_with (rw [← HX6.out])
      refine bodyPost_ret (v := .tuple #[.agg #[.int .i64 z, .slice (some ⟨g5, 0, none⟩) n c5], .bool true]) ?_ rfl (HYE.out HOKT.out ⟨_, g5, c5, by rw [List.length_set, HX.out], by have := HG5.out; omega, HIE.out _ _, HBE.out _ _⟩)
      obtain ⟨q0, q1⟩ := HP2.out (.int .i64 z) (.slice (some ⟨g5, 0, none⟩) n c5)
      simp [results, Try.results37, go_sem, q0, q1]
end Go.Proofs.Ytmnmkbhfilfifaa.nu
