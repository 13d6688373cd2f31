/-
  The draw of the law on planned places: a config, a text and a few numbers; nothing that was there is written.
-/
import Derived.Test.YtomlogkbndmaaaaDrawC
import Derived.Test.YtomlogkbndmaaaaDrawM
import Derived.Test.YtomlogkbndmaaaaBits4
import Derived.Test.YtomlogkbndmaaaaOBox
namespace Go.Proofs.Ytomlogkbndmaaaa.rd
open Go.RowKit
open txt ints

/-- A drawn config in a variable, and all that lies below B. -/
structure Dr (w : World) (R cb B : Nat) (a : Option Addr) (len cap : Nat) (n1 n2 n3 : Int) (v : Value) (xs : List ByteArray) (wr : World) : Prop where
  c0 : wr.cell? ⟨cb, 0, none⟩ = some (.int .i64 n1)
  c1 : wr.cell? ⟨cb, 1, none⟩ = some (.int .i64 n2)
  c2 : wr.cell? ⟨cb, 2, none⟩ = some (.int .i64 n3)
  c3 : wr.cell? ⟨cb, 3, none⟩ = some v
  own : wr.ownsRow w.heap.size 9 1 v xs.length (xs.map Value.string)
  ob : ∀ k, v.ownBlock = some k → k < B
  rd : Rd wr R a len cap
  grown : w.grownBy wr (some R)
  atc : w.heap.size ≤ cb
  ltc : cb < B
  ltB : B ≤ wr.heap.size
theorem Dr.drawn {w : World} {R cb B : Nat} {a : Option Addr} {len cap : Nat} {n1 n2 n3 : Int} {v : Value} {xs : List ByteArray} {wr w' : World} (h : Dr w R cb B a len cap n1 n2 n3 v xs wr) (hR : R < w.heap.size) (hg : wr.grownBy w' (some R)) (hr : Rd w' R a len cap) : Dr w R cb B a len cap n1 n2 n3 v xs w' := by
  have hc := hg.block cb (by have := h.ltc; have := h.ltB; omega) (fun e => by have := Option.some.inj e; have := h.atc; omega)
  exact ⟨by rw [World.cell?_of_block (a := ⟨cb, 0, none⟩) hc]; exact h.c0, by rw [World.cell?_of_block (a := ⟨cb, 1, none⟩) hc]; exact h.c1, by rw [World.cell?_of_block (a := ⟨cb, 2, none⟩) hc]; exact h.c2, by rw [World.cell?_of_block (a := ⟨cb, 3, none⟩) hc]; exact h.c3, own_rdT h.own hg hR, h.ob, hr, gtrans h.grown hg, h.atc, h.ltc, Nat.le_trans h.ltB hg.size⟩
theorem Dr.above {w : World} {R cb B : Nat} {a : Option Addr} {len cap : Nat} {n1 n2 n3 : Int} {v : Value} {xs : List ByteArray} {wr w' : World} (h : Dr w R cb B a len cap n1 n2 n3 v xs wr) (hR : R < w.heap.size) (hb : Below B wr w') : Dr w R cb B a len cap n1 n2 n3 v xs w' := by
  have hw : w.heap.size ≤ B := by have := h.atc; have := h.ltc; omega
  refine ⟨by rw [hb.cell (p := ⟨cb, 0, none⟩) h.ltc]; exact h.c0, by rw [hb.cell (p := ⟨cb, 1, none⟩) h.ltc]; exact h.c1, by rw [hb.cell (p := ⟨cb, 2, none⟩) h.ltc]; exact h.c2, by rw [hb.cell (p := ⟨cb, 3, none⟩) h.ltc]; exact h.c3, ?_, h.ob, h.rd.above (hb.mono (by omega)), gBt h.grown (hb.mono hw), h.atc, h.ltc, Nat.le_trans h.ltB hb.size⟩
  refine ⟨h.own.1, ?_⟩
  rcases h.own.2 with h2 | ⟨g, cp, cur, e1, e2, e3, e4⟩
  · exact .inl h2
  · refine .inr ⟨g, cp, cur, e1, e2, ?_, e4⟩
    rw [hb.block g (h.ob g (by rw [e1]; rfl))]
    exact e3
theorem Dr.later {w : World} {R cb B : Nat} {a : Option Addr} {len cap : Nat} {n1 n2 n3 : Int} {v : Value} {xs : List ByteArray} {wr w' : World} (h : Dr w R cb B a len cap n1 n2 n3 v xs wr) (hR : R < w.heap.size) (hb : Below wr.heap.size wr w') : Dr w R cb B a len cap n1 n2 n3 v xs w' := h.above hR (hb.mono h.ltB)
def PdAns (w : World) (e : Ending) (w' : World) : Prop :=
  ∃ (n1 n2 n3 : Int) (v vt : Value) (s : ByteArray), e = .returned (.tuple #[.agg #[.int .i64 n1, .int .i64 n2, .int .i64 n3, v], .string s, vt]) ∧ (0 ≤ n1 ∧ n1 ≤ 128 ∧ 0 ≤ n2 ∧ n2 ≤ 32 ∧ 0 ≤ n3 ∧ n3 ≤ 400) ∧ s.size ≤ 65 ∧ ∃ (xs : List ByteArray) (ts : List Int), xs.length ≤ 3 ∧ (∀ x ∈ xs, x.size ≤ 23) ∧ ts.length ≤ 9 ∧ w'.ownsRow w.heap.size 9 1 v xs.length (xs.map Value.string) ∧ w'.ownsRow w.heap.size 2 1 vt ts.length (ts.map (Value.int .i64))
set_option maxHeartbeats 4000000 in
set_option maxRecDepth 20000 in
theorem draw_planned (w : World) (a : Option Addr) (len cap : Nat) (hs : len ≤ 1048576) (hc : RdCode w w.heap.size a len) :
    Calls Try.prog 8 #[.slice a len cap] w fun e w' => PdAns w e w' ∧ Below w.heap.size w w' := by
  obtain ⟨V, hV⟩ : ∃ V, V = w.alloc (.cells #[.int .i64 0, .int .i64 0, .int .i64 0, .slice none 0 0] 26) := ⟨_, rfl⟩
  have HV : Hid (V = w.alloc (.cells #[.int .i64 0, .int .i64 0, .int .i64 0, .slice none 0 0] 26)) := hV
  have hvb : Below w.heap.size w V := by rw [hV]; exact (Below.refl _ _).alloc (Nat.le_refl _) _
  have HVB : Hid (Below w.heap.size w V) := hvb
  have HVS : Hid (V.heap.size = w.heap.size + 1) := by show V.heap.size = _; rw [hV]; simp
  have HVC : Hid (∀ i, i < 4 → (∃ v, V.cell? ⟨w.heap.size, i, none⟩ = some v)) := fun i hi => by
    rw [hV, World.cell?_alloc_new]
    match i, hi with
    | 0, _ => exact ⟨_, rfl⟩
    | 1, _ => exact ⟨_, rfl⟩
    | 2, _ => exact ⟨_, rfl⟩
    | 3, _ => exact ⟨_, rfl⟩
  have HVF : Hid (∀ i, V.frozen? ⟨w.heap.size, i, none⟩ = false) := fun i => by rw [hV]; exact World.frozen?_alloc_new _ _ _ _
  have HC : Hid (RdCode V V.heap.size a len) := hc.below hvb hvb.size
  clear hc hV hvb
  go_enter Try.func8, Try.ntmps8
  go_wp2_with fail
  rw [← HV.out]
  refine (open_any _ a len cap hs HC.out).mono ?_
  rintro e w1 ⟨rfl, hr1, hb1⟩
  obtain ⟨R, hRe⟩ : ∃ R, R = V.heap.size := ⟨_, rfl⟩
  rw [← hRe] at hr1 ⊢
  have HRE : Hid (R = w.heap.size + 1) := by show R = _; rw [hRe]; exact HVS.out
  have HR1 : Hid (Rd w1 R a len cap) := hr1
  have HB1 : Hid (Below V.heap.size V w1) := hb1
  have HRS : Hid (R < w1.heap.size) := hr1.size
  clear hr1 hb1 hRe
  go_wp2_with fail
  refine (config_any _ R a len cap HR1.out).mono ?_
  rintro e w2 ⟨⟨n1, n2, n3, v, rfl, hbd, xs, hx1, hx3, hxs, hown, hr2, hg2⟩, _⟩
  obtain ⟨av, gv, cv, rfl, hgv, _⟩ := txts_of_row hown
  have HXS : Hid (1 ≤ xs.length ∧ xs.length ≤ 3 ∧ ∀ x ∈ xs, x.size ≤ 23) := ⟨hx1, hx3, hxs⟩
  have HBD : Hid (0 ≤ n1 ∧ n1 ≤ 128 ∧ 0 ≤ n2 ∧ n2 ≤ 32 ∧ 0 ≤ n3 ∧ n3 ≤ 400) := hbd
  obtain ⟨nx, hnx⟩ : ∃ n, n = xs.length := ⟨_, rfl⟩
  have HNX : Hid (xs.length = nx) := hnx.symm
  rw [← hnx]
  have hnx1 : 1 ≤ nx := by omega
  have hnx3 : nx ≤ 3 := by omega
  obtain ⟨C, hC⟩ : ∃ C, C = w2.alloc (.cells #[.int .i64 n1, .int .i64 n2, .int .i64 n3, .slice av nx cv] 26) := ⟨_, rfl⟩
  have HCE : Hid (C = w2.alloc (.cells #[.int .i64 n1, .int .i64 n2, .int .i64 n3, .slice av nx cv] 26)) := hC
  obtain ⟨cb, hcb⟩ : ∃ c, c = w2.heap.size := ⟨_, rfl⟩
  have HCB : Hid (cb = w2.heap.size) := hcb
  have HD0 : Hid (Dr w1 R cb (cb + 1) a len cap n1 n2 n3 (.slice av nx cv) xs C) := by
    have cell : ∀ i v, #[Value.int .i64 n1, .int .i64 n2, .int .i64 n3, .slice av nx cv][i]? = some v → C.cell? ⟨w2.heap.size, i, none⟩ = some v := fun i v q => by rw [hC, World.cell?_alloc_new]; exact q
    have hba : Below w2.heap.size w2 C := by rw [hC]; exact (Below.refl _ _).alloc (Nat.le_refl _) _
    refine ⟨by rw [hcb]; exact cell 0 _ rfl, by rw [hcb]; exact cell 1 _ rfl, by rw [hcb]; exact cell 2 _ rfl, by rw [hcb]; exact cell 3 _ rfl, ?_, fun k hk => ?_, by rw [hC]; exact hr2.alloc _, by rw [hC]; exact galloc hg2 _, by rw [hcb]; exact hg2.size, Nat.lt_succ_self _, by rw [hC, hcb]; simp⟩
    · rw [hnx]; exact own_below hown hba
    · rw [hnx] at hk
      have := (hown.lt k hk).2
      omega
  clear hC hcb hnx hown hgv hr2 hg2 hx1 hx3 hxs hbd
  have HLB : Hid (∀ x : Nat, (x : Int) < (nx : Int) → x < 3) := fun x hx => by omega
  go_wp2_with fail
  rw [← HCE.out, ← HCB.out]
  refine (lb.aMap_any _ R a len cap HD0.out.rd).mono ?_
  rintro e w3 ⟨s0, rfl, hs0, hr3, hb3⟩
  have HD3 : Hid (Dr w1 R cb (cb + 1) a len cap n1 n2 n3 (.slice av nx cv) xs w3) := HD0.out.drawn HRS.out hb3 hr3
  clear hr3 hb3
  go_wp2_with fail
  refine (once_any _ R a len cap HD3.out.rd 2 (by omega) (by omega)).mono ?_
  rintro e w4 ⟨q, rfl, hr4, hb4⟩
  have HD4 : Hid (Dr w1 R cb (cb + 1) a len cap n1 n2 n3 (.slice av nx cv) xs w4) := HD3.out.drawn HRS.out hb4 hr4
  clear hr4 hb4
  have HRB : Hid (∀ wz, w1.grownBy wz (some R) → (∀ i, i < 4 → ∃ v, wz.cell? ⟨w.heap.size, i, none⟩ = some v) ∧ (∀ i, wz.frozen? ⟨w.heap.size, i, none⟩ = false) ∧ Below w.heap.size w wz) := fun wz hg => by
    have hlt1 : w.heap.size < w1.heap.size := by have h1 := HB1.out.size; have h2 := HVS.out; omega
    have hltV : w.heap.size < V.heap.size := by have h2 := HVS.out; omega
    have hbk := hg.block w.heap.size hlt1 (fun e => by have h3 := Option.some.inj e; have h4 := HRE.out; omega)
    refine ⟨fun i hi => ?_, fun i => ?_, ?_⟩
    · obtain ⟨v, hv⟩ := HVC.out i hi
      exact ⟨v, by rw [World.cell?_of_block (a := ⟨w.heap.size, i, none⟩) hbk, HB1.out.cell (p := ⟨w.heap.size, i, none⟩) hltV]; exact hv⟩
    · rw [World.frozen?_of_block (a := ⟨w.heap.size, i, none⟩) hbk, HB1.out.frozen (p := ⟨w.heap.size, i, none⟩) hltV]
      exact HVF.out i
    · exact below_of (HVB.out.trans (HB1.out.mono HVB.out.size)) hg (by have h4 := HRE.out; omega) (by omega)
  have HCBW : Hid (w1.heap.size ≤ cb ∧ w.heap.size < w1.heap.size) := ⟨HD0.out.atc, by have h1 := HB1.out.size; have h2 := HVS.out; omega⟩
  cases q with
  | true =>
    go_wp2_with fail
    refine (lb.nulls_any 64 (by omega) _).mono ?_
    rintro e w5 ⟨rfl, hb5⟩
    have HDa : Hid (Dr w1 R cb (cb + 1) a len cap n1 n2 n3 (.slice av nx cv) xs w5) := HD4.out.later HRS.out hb5
    obtain ⟨s, hse⟩ : ∃ s, s = lb.nulls 64 := ⟨_, rfl⟩
    rw [← hse]
    have HSS : Hid (s.size ≤ 65) := by show s.size ≤ 65; rw [hse]; show (List.replicate 64 (0 : UInt8)).toArray.size ≤ 65; simp
    clear hb5 hse hs0
    obtain ⟨X, hX⟩ : ∃ X, X = w5.alloc (.cells #[] 2) := ⟨_, rfl⟩
    have HX : Hid (X = w5.alloc (.cells #[] 2)) := hX
    have hbx : Below w5.heap.size w5 X := by rw [hX]; exact (Below.refl _ _).alloc (Nat.le_refl _) _
    have HDX : Hid (Dr w1 R cb (cb + 1) a len cap n1 n2 n3 (.slice av nx cv) xs X) := HDa.out.later HRS.out hbx
    have HOX : Hid (X.ownsRow (cb + 1) 2 1 (.slice (some ⟨w5.heap.size, 0, none⟩) 0 0) ([] : List Int).length (([] : List Int).map (Value.int .i64))) := ⟨rfl, .inr ⟨w5.heap.size, 0, #[], rfl, HDa.out.ltB, by rw [hX]; exact heap_alloc_last w5 _, Nat.le_refl _, Nat.zero_le _, rfl, rfl⟩⟩
    clear hX hbx
    go_wp2_with fail
    rw [← HX.out]
    refine (below_pos _ R a len cap HDX.out.rd 8 (by omega) (by omega)).mono ?_
    rintro e w6 ⟨n0, rfl, hn0, hr6, hb6⟩
    have HD6 : Hid (Dr w1 R cb (cb + 1) a len cap n1 n2 n3 (.slice av nx cv) xs w6) := HDX.out.drawn HRS.out hb6 hr6
    have HO6 : Hid (w6.ownsRow (cb + 1) 2 1 (.slice (some ⟨w5.heap.size, 0, none⟩) 0 0) ([] : List Int).length (([] : List Int).map (Value.int .i64))) := own_rdT HOX.out hb6 (by have := HRS.out; have := HCBW.out; omega)
    clear hr6 hb6
    go_wp2
    go_loopw [8, 9] (fun o i wr => ∃ (n : Nat) (ts : List Int), i = .int .i64 (n : Int) ∧ n ≤ 8 ∧ ts.length + n ≤ 8 ∧ wr.ownsRow (cb + 1) 2 1 o ts.length (ts.map (Value.int .i64)) ∧ Dr w1 R cb (cb + 1) a len cap n1 n2 n3 (.slice av nx cv) xs wr) (fun _ i _ => (intOf i).toNat)
    case atStart => exact ⟨n0, [], rfl, by omega, by simp; omega, HO6.out, HD6.out⟩
    case round =>
      obtain ⟨n, ts, rfl, hn, htn, hown, hd⟩ := hrel
      have HDr : Hid (Dr w1 R cb (cb + 1) a len cap n1 n2 n3 (.slice av nx cv) xs wr) := hd
      have HOr : Hid (wr.ownsRow (cb + 1) 2 1 u8 ts.length (ts.map (Value.int .i64))) := hown
      have k3 := hd.c3
      clear hd hown hn0
      by_cases hlt : 0 < n
      · have hlti : (0 : Int) < (n : Int) := by omega
        obtain ⟨m, rfl⟩ : ∃ m, n = m + 1 := ⟨n - 1, by omega⟩
        have HTN : Hid (ts.length + (m + 1) ≤ 8) := htn
        have HM : Hid (m ≤ 8) := by show m ≤ 8; omega
        clear htn
        go_wp2_with fail
        refine (below_pos _ R a len cap HDr.out.rd (nx : Int) (by omega) (by omega)).mono ?_
        rintro e w7 ⟨u, rfl, hu, hr7, hb7⟩
        have HD7 : Hid (Dr w1 R cb (cb + 1) a len cap n1 n2 n3 (.slice av nx cv) xs w7) := HDr.out.drawn HRS.out hb7 hr7
        have HO7 : Hid (w7.ownsRow (cb + 1) 2 1 u8 ts.length (ts.map (Value.int .i64))) := own_rdT HOr.out hb7 (by have := HRS.out; have := HCBW.out; omega)
        clear hr7 hb7 k3
        go_wp2_with (refine ints.wpList_push w7 (by rfl) _ _ (by rfl) (cb + 1) u8 ts (u : Int) HO7.out (by rfl) (by rfl) (by have := HTN.out; omega) HD7.out.ltB ?_; intro g cp w8 hown8 hb8 hs8; have HO8 : Hid (w8.ownsRow (cb + 1) 2 1 (.slice (some ⟨g, 0, none⟩) (ts.length + 1) cp) (ts ++ [(u : Int)]).length ((ts ++ [(u : Int)]).map (Value.int .i64))) := hown8; have HD8 : Hid (Dr w1 R cb (cb + 1) a len cap n1 n2 n3 (.slice av nx cv) xs w8) := HD7.out.above HRS.out hb8; clear hown8 hb8 hs8)
        go_roundw
        case rel => exact ⟨m, ts ++ [(u : Int)], by go_num, HM.out, by have := HTN.out; simp; omega, HO8.out, HD8.out⟩
        case measure => simp [intOf]
      · have hge : ¬ (0 : Int) < (n : Int) := by omega
        have HTL : Hid (ts.length ≤ 8) := by show ts.length ≤ 8; omega
        clear htn hn hlt
        go_wp2_with fail
        refine (once_any _ R a len cap HDr.out.rd 12 (by omega) (by omega)).mono ?_
        rintro e w7 ⟨q7, rfl, hr7, hb7⟩
        have HD7 : Hid (Dr w1 R cb (cb + 1) a len cap n1 n2 n3 (.slice av nx cv) xs w7) := HDr.out.drawn HRS.out hb7 hr7
        have HO7 : Hid (w7.ownsRow (cb + 1) 2 1 u8 ts.length (ts.map (Value.int .i64))) := own_rdT HOr.out hb7 (by have := HRS.out; have := HCBW.out; omega)
        clear hr7 hb7 k3
        cases q7 with
        | true =>
          have k3 := HD7.out.c3
          have hwn : IntKind.i64.wrap ((nx : Int) - 1) = (nx : Int) - 1 := by rw [IntKind.wrap_i64]; omega
          go_wp2_with fail
          refine (off_any _ R a len cap HD7.out.rd 0 ((nx : Int) - 1) (by omega) (by omega) (by omega)).mono ?_
          rintro e w8 ⟨x, rfl, _, hr8, hb8⟩
          have HD8 : Hid (Dr w1 R cb (cb + 1) a len cap n1 n2 n3 (.slice av nx cv) xs w8) := HD7.out.drawn HRS.out hb8 hr8
          have HO8 : Hid (w8.ownsRow (cb + 1) 2 1 u8 ts.length (ts.map (Value.int .i64))) := own_rdT HO7.out hb8 (by have := HRS.out; have := HCBW.out; omega)
          clear hr8 hb8 k3 hwn
          go_wp2_with (first | (refine ints.wpList_push w8 (by rfl) _ _ (by rfl) (cb + 1) u8 ts x HO8.out (by rfl) (by rfl) (by have := HTL.out; omega) HD8.out.ltB ?_; intro g cp w9 hown9 hb9 hs9; have HOz : Hid (w9.ownsRow (cb + 1) 2 1 (.slice (some ⟨g, 0, none⟩) (ts.length + 1) cp) (ts ++ [x]).length ((ts ++ [x]).map (Value.int .i64))) := hown9; have HDz : Hid (Dr w1 R cb (cb + 1) a len cap n1 n2 n3 (.slice av nx cv) xs w9) := HD8.out.above HRS.out hb9; clear hown9 hb9 hs9; have hDz := HDz.out; obtain ⟨hrc, hrf, hbe⟩ := HRB.out w9 hDz.grown; obtain ⟨⟨v0, e0⟩, ⟨v1, e1⟩, ⟨v2, e2⟩, ⟨v3, e3⟩⟩ := And.intro (hrc 0 (by decide)) (And.intro (hrc 1 (by decide)) (And.intro (hrc 2 (by decide)) (hrc 3 (by decide)))); have f0 := hrf 0; have f1 := hrf 1; have f2 := hrf 2; have f3 := hrf 3; have g0 := hDz.c0; have g1 := hDz.c1; have g2 := hDz.c2; have g3 := hDz.c3; have HBE : Hid (Below w.heap.size w (put4 w9 w.heap.size (.int .i64 n1) (.int .i64 n2) (.int .i64 n3) (.slice av nx cv))) := (((hbe.setCell (p := ⟨w.heap.size, 0, none⟩) (Nat.le_refl _) _).setCell (p := ⟨w.heap.size, 1, none⟩) (Nat.le_refl _) _).setCell (p := ⟨w.heap.size, 2, none⟩) (Nat.le_refl _) _).setCell (p := ⟨w.heap.size, 3, none⟩) (Nat.le_refl _) _; have HQ : Hid (_ ∧ _ ∧ _ ∧ _) := got4 hrc (.int .i64 n1) (.int .i64 n2) (.int .i64 n3) (.slice av nx cv); have HOS : Hid ((put4 w9 w.heap.size (.int .i64 n1) (.int .i64 n2) (.int .i64 n3) (.slice av nx cv)).ownsRow w.heap.size 9 1 (.slice av nx cv) xs.length (xs.map Value.string)) := own_mono (obj.row_aside (obj.row_aside (obj.row_aside (obj.row_aside hDz.own HCBW.out.2) HCBW.out.2) HCBW.out.2) HCBW.out.2) (by have := HCBW.out; omega); have HOI : Hid ((put4 w9 w.heap.size (.int .i64 n1) (.int .i64 n2) (.int .i64 n3) (.slice av nx cv)).ownsRow w.heap.size 2 1 (.slice (some ⟨g, 0, none⟩) (ts.length + 1) cp) (ts ++ [x]).length ((ts ++ [x]).map (Value.int .i64))) := own_mono (obj.row_aside (obj.row_aside (obj.row_aside (obj.row_aside HOz.out (by have := HCBW.out; omega)) (by have := HCBW.out; omega)) (by have := HCBW.out; omega)) (by have := HCBW.out; omega)) (by have := HCBW.out; omega); clear hDz hrc hrf hbe))
          refine bodyPost_ret (v := .tuple #[.agg #[.int .i64 n1, .int .i64 n2, .int .i64 n3, .slice av nx cv], .string s, (.slice (some ⟨g, 0, none⟩) (ts.length + 1) cp)]) ?_ rfl ⟨⟨n1, n2, n3, .slice av nx cv, (.slice (some ⟨g, 0, none⟩) (ts.length + 1) cp), s, rfl, HBD.out, HSS.out, xs, ts ++ [x], HXS.out.2.1, HXS.out.2.2, by have := HTL.out; simp; omega, HOS.out, HOI.out⟩, HBE.out⟩
          obtain ⟨q0, q1, q2, q3⟩ := HQ.out
          unfold put4 at q0 q1 q2 q3
          simp [results, Try.results8, go_sem, q0, q1, q2, q3]
        | false =>
          have HDz : Hid (Dr w1 R cb (cb + 1) a len cap n1 n2 n3 (.slice av nx cv) xs w7) := HD7.out
          have HOz : Hid (w7.ownsRow (cb + 1) 2 1 u8 ts.length (ts.map (Value.int .i64))) := HO7.out
          have hDz := HDz.out
          obtain ⟨hrc, hrf, hbe⟩ := HRB.out w7 hDz.grown
          obtain ⟨⟨v0, e0⟩, ⟨v1, e1⟩, ⟨v2, e2⟩, ⟨v3, e3⟩⟩ := And.intro (hrc 0 (by decide)) (And.intro (hrc 1 (by decide)) (And.intro (hrc 2 (by decide)) (hrc 3 (by decide))))
          have f0 := hrf 0
          have f1 := hrf 1
          have f2 := hrf 2
          have f3 := hrf 3
          have g0 := hDz.c0
          have g1 := hDz.c1
          have g2 := hDz.c2
          have g3 := hDz.c3
          have HBE : Hid (Below w.heap.size w (put4 w7 w.heap.size (.int .i64 n1) (.int .i64 n2) (.int .i64 n3) (.slice av nx cv))) := (((hbe.setCell (p := ⟨w.heap.size, 0, none⟩) (Nat.le_refl _) _).setCell (p := ⟨w.heap.size, 1, none⟩) (Nat.le_refl _) _).setCell (p := ⟨w.heap.size, 2, none⟩) (Nat.le_refl _) _).setCell (p := ⟨w.heap.size, 3, none⟩) (Nat.le_refl _) _
          have HQ : Hid (_ ∧ _ ∧ _ ∧ _) := got4 hrc (.int .i64 n1) (.int .i64 n2) (.int .i64 n3) (.slice av nx cv)
          have HOS : Hid ((put4 w7 w.heap.size (.int .i64 n1) (.int .i64 n2) (.int .i64 n3) (.slice av nx cv)).ownsRow w.heap.size 9 1 (.slice av nx cv) xs.length (xs.map Value.string)) := own_mono (obj.row_aside (obj.row_aside (obj.row_aside (obj.row_aside hDz.own HCBW.out.2) HCBW.out.2) HCBW.out.2) HCBW.out.2) (by have := HCBW.out; omega)
          have HOI : Hid ((put4 w7 w.heap.size (.int .i64 n1) (.int .i64 n2) (.int .i64 n3) (.slice av nx cv)).ownsRow w.heap.size 2 1 u8 (ts).length ((ts).map (Value.int .i64))) := own_mono (obj.row_aside (obj.row_aside (obj.row_aside (obj.row_aside HOz.out (by have := HCBW.out; omega)) (by have := HCBW.out; omega)) (by have := HCBW.out; omega)) (by have := HCBW.out; omega)) (by have := HCBW.out; omega)
          clear hDz hrc hrf hbe
          go_wp2
          refine bodyPost_ret (v := .tuple #[.agg #[.int .i64 n1, .int .i64 n2, .int .i64 n3, .slice av nx cv], .string s, u8]) ?_ rfl ⟨⟨n1, n2, n3, .slice av nx cv, u8, s, rfl, HBD.out, HSS.out, xs, ts, HXS.out.2.1, HXS.out.2.2, by have := HTL.out; omega, HOS.out, HOI.out⟩, HBE.out⟩
          obtain ⟨q0, q1, q2, q3⟩ := HQ.out
          unfold put4 at q0 q1 q2 q3
          simp [results, Try.results8, go_sem, q0, q1, q2, q3]
  | false =>
    have HDa : Hid (Dr w1 R cb (cb + 1) a len cap n1 n2 n3 (.slice av nx cv) xs w4) := HD4.out
    have HSS : Hid (s0.size ≤ 65) := hs0
    clear hs0
    obtain ⟨X, hX⟩ : ∃ X, X = w4.alloc (.cells #[] 2) := ⟨_, rfl⟩
    have HX : Hid (X = w4.alloc (.cells #[] 2)) := hX
    have hbx : Below w4.heap.size w4 X := by rw [hX]; exact (Below.refl _ _).alloc (Nat.le_refl _) _
    have HDX : Hid (Dr w1 R cb (cb + 1) a len cap n1 n2 n3 (.slice av nx cv) xs X) := HDa.out.later HRS.out hbx
    have HOX : Hid (X.ownsRow (cb + 1) 2 1 (.slice (some ⟨w4.heap.size, 0, none⟩) 0 0) ([] : List Int).length (([] : List Int).map (Value.int .i64))) := ⟨rfl, .inr ⟨w4.heap.size, 0, #[], rfl, HDa.out.ltB, by rw [hX]; exact heap_alloc_last w4 _, Nat.le_refl _, Nat.zero_le _, rfl, rfl⟩⟩
    clear hX hbx
    go_wp2_with fail
    rw [← HX.out]
    refine (below_pos _ R a len cap HDX.out.rd 8 (by omega) (by omega)).mono ?_
    rintro e w6 ⟨n0, rfl, hn0, hr6, hb6⟩
    have HD6 : Hid (Dr w1 R cb (cb + 1) a len cap n1 n2 n3 (.slice av nx cv) xs w6) := HDX.out.drawn HRS.out hb6 hr6
    have HO6 : Hid (w6.ownsRow (cb + 1) 2 1 (.slice (some ⟨w4.heap.size, 0, none⟩) 0 0) ([] : List Int).length (([] : List Int).map (Value.int .i64))) := own_rdT HOX.out hb6 (by have := HRS.out; have := HCBW.out; omega)
    clear hr6 hb6
    go_wp2
    go_loopw [8, 9] (fun o i wr => ∃ (n : Nat) (ts : List Int), i = .int .i64 (n : Int) ∧ n ≤ 8 ∧ ts.length + n ≤ 8 ∧ wr.ownsRow (cb + 1) 2 1 o ts.length (ts.map (Value.int .i64)) ∧ Dr w1 R cb (cb + 1) a len cap n1 n2 n3 (.slice av nx cv) xs wr) (fun _ i _ => (intOf i).toNat)
    case atStart => exact ⟨n0, [], rfl, by omega, by simp; omega, HO6.out, HD6.out⟩
    case round =>
      obtain ⟨n, ts, rfl, hn, htn, hown, hd⟩ := hrel
      have HDr : Hid (Dr w1 R cb (cb + 1) a len cap n1 n2 n3 (.slice av nx cv) xs wr) := hd
      have HOr : Hid (wr.ownsRow (cb + 1) 2 1 u8 ts.length (ts.map (Value.int .i64))) := hown
      have k3 := hd.c3
      clear hd hown hn0
      by_cases hlt : 0 < n
      · have hlti : (0 : Int) < (n : Int) := by omega
        obtain ⟨m, rfl⟩ : ∃ m, n = m + 1 := ⟨n - 1, by omega⟩
        have HTN : Hid (ts.length + (m + 1) ≤ 8) := htn
        have HM : Hid (m ≤ 8) := by show m ≤ 8; omega
        clear htn
        go_wp2_with fail
        refine (below_pos _ R a len cap HDr.out.rd (nx : Int) (by omega) (by omega)).mono ?_
        rintro e w7 ⟨u, rfl, hu, hr7, hb7⟩
        have HD7 : Hid (Dr w1 R cb (cb + 1) a len cap n1 n2 n3 (.slice av nx cv) xs w7) := HDr.out.drawn HRS.out hb7 hr7
        have HO7 : Hid (w7.ownsRow (cb + 1) 2 1 u8 ts.length (ts.map (Value.int .i64))) := own_rdT HOr.out hb7 (by have := HRS.out; have := HCBW.out; omega)
        clear hr7 hb7 k3
        go_wp2_with (refine ints.wpList_push w7 (by rfl) _ _ (by rfl) (cb + 1) u8 ts (u : Int) HO7.out (by rfl) (by rfl) (by have := HTN.out; omega) HD7.out.ltB ?_; intro g cp w8 hown8 hb8 hs8; have HO8 : Hid (w8.ownsRow (cb + 1) 2 1 (.slice (some ⟨g, 0, none⟩) (ts.length + 1) cp) (ts ++ [(u : Int)]).length ((ts ++ [(u : Int)]).map (Value.int .i64))) := hown8; have HD8 : Hid (Dr w1 R cb (cb + 1) a len cap n1 n2 n3 (.slice av nx cv) xs w8) := HD7.out.above HRS.out hb8; clear hown8 hb8 hs8)
        go_roundw
        case rel => exact ⟨m, ts ++ [(u : Int)], by go_num, HM.out, by have := HTN.out; simp; omega, HO8.out, HD8.out⟩
        case measure => simp [intOf]
      · have hge : ¬ (0 : Int) < (n : Int) := by omega
        have HTL : Hid (ts.length ≤ 8) := by show ts.length ≤ 8; omega
        clear htn hn hlt
        go_wp2_with fail
        refine (once_any _ R a len cap HDr.out.rd 12 (by omega) (by omega)).mono ?_
        rintro e w7 ⟨q7, rfl, hr7, hb7⟩
        have HD7 : Hid (Dr w1 R cb (cb + 1) a len cap n1 n2 n3 (.slice av nx cv) xs w7) := HDr.out.drawn HRS.out hb7 hr7
        have HO7 : Hid (w7.ownsRow (cb + 1) 2 1 u8 ts.length (ts.map (Value.int .i64))) := own_rdT HOr.out hb7 (by have := HRS.out; have := HCBW.out; omega)
        clear hr7 hb7 k3
        cases q7 with
        | true =>
          have k3 := HD7.out.c3
          have hwn : IntKind.i64.wrap ((nx : Int) - 1) = (nx : Int) - 1 := by rw [IntKind.wrap_i64]; omega
          go_wp2_with fail
          refine (off_any _ R a len cap HD7.out.rd 0 ((nx : Int) - 1) (by omega) (by omega) (by omega)).mono ?_
          rintro e w8 ⟨x, rfl, _, hr8, hb8⟩
          have HD8 : Hid (Dr w1 R cb (cb + 1) a len cap n1 n2 n3 (.slice av nx cv) xs w8) := HD7.out.drawn HRS.out hb8 hr8
          have HO8 : Hid (w8.ownsRow (cb + 1) 2 1 u8 ts.length (ts.map (Value.int .i64))) := own_rdT HO7.out hb8 (by have := HRS.out; have := HCBW.out; omega)
          clear hr8 hb8 k3 hwn
          go_wp2_with (first | (refine ints.wpList_push w8 (by rfl) _ _ (by rfl) (cb + 1) u8 ts x HO8.out (by rfl) (by rfl) (by have := HTL.out; omega) HD8.out.ltB ?_; intro g cp w9 hown9 hb9 hs9; have HOz : Hid (w9.ownsRow (cb + 1) 2 1 (.slice (some ⟨g, 0, none⟩) (ts.length + 1) cp) (ts ++ [x]).length ((ts ++ [x]).map (Value.int .i64))) := hown9; have HDz : Hid (Dr w1 R cb (cb + 1) a len cap n1 n2 n3 (.slice av nx cv) xs w9) := HD8.out.above HRS.out hb9; clear hown9 hb9 hs9; have hDz := HDz.out; obtain ⟨hrc, hrf, hbe⟩ := HRB.out w9 hDz.grown; obtain ⟨⟨v0, e0⟩, ⟨v1, e1⟩, ⟨v2, e2⟩, ⟨v3, e3⟩⟩ := And.intro (hrc 0 (by decide)) (And.intro (hrc 1 (by decide)) (And.intro (hrc 2 (by decide)) (hrc 3 (by decide)))); have f0 := hrf 0; have f1 := hrf 1; have f2 := hrf 2; have f3 := hrf 3; have g0 := hDz.c0; have g1 := hDz.c1; have g2 := hDz.c2; have g3 := hDz.c3; have HBE : Hid (Below w.heap.size w (put4 w9 w.heap.size (.int .i64 n1) (.int .i64 n2) (.int .i64 n3) (.slice av nx cv))) := (((hbe.setCell (p := ⟨w.heap.size, 0, none⟩) (Nat.le_refl _) _).setCell (p := ⟨w.heap.size, 1, none⟩) (Nat.le_refl _) _).setCell (p := ⟨w.heap.size, 2, none⟩) (Nat.le_refl _) _).setCell (p := ⟨w.heap.size, 3, none⟩) (Nat.le_refl _) _; have HQ : Hid (_ ∧ _ ∧ _ ∧ _) := got4 hrc (.int .i64 n1) (.int .i64 n2) (.int .i64 n3) (.slice av nx cv); have HOS : Hid ((put4 w9 w.heap.size (.int .i64 n1) (.int .i64 n2) (.int .i64 n3) (.slice av nx cv)).ownsRow w.heap.size 9 1 (.slice av nx cv) xs.length (xs.map Value.string)) := own_mono (obj.row_aside (obj.row_aside (obj.row_aside (obj.row_aside hDz.own HCBW.out.2) HCBW.out.2) HCBW.out.2) HCBW.out.2) (by have := HCBW.out; omega); have HOI : Hid ((put4 w9 w.heap.size (.int .i64 n1) (.int .i64 n2) (.int .i64 n3) (.slice av nx cv)).ownsRow w.heap.size 2 1 (.slice (some ⟨g, 0, none⟩) (ts.length + 1) cp) (ts ++ [x]).length ((ts ++ [x]).map (Value.int .i64))) := own_mono (obj.row_aside (obj.row_aside (obj.row_aside (obj.row_aside HOz.out (by have := HCBW.out; omega)) (by have := HCBW.out; omega)) (by have := HCBW.out; omega)) (by have := HCBW.out; omega)) (by have := HCBW.out; omega); clear hDz hrc hrf hbe))
          refine bodyPost_ret (v := .tuple #[.agg #[.int .i64 n1, .int .i64 n2, .int .i64 n3, .slice av nx cv], .string s0, (.slice (some ⟨g, 0, none⟩) (ts.length + 1) cp)]) ?_ rfl ⟨⟨n1, n2, n3, .slice av nx cv, (.slice (some ⟨g, 0, none⟩) (ts.length + 1) cp), s0, rfl, HBD.out, HSS.out, xs, ts ++ [x], HXS.out.2.1, HXS.out.2.2, by have := HTL.out; simp; omega, HOS.out, HOI.out⟩, HBE.out⟩
          obtain ⟨q0, q1, q2, q3⟩ := HQ.out
          unfold put4 at q0 q1 q2 q3
          simp [results, Try.results8, go_sem, q0, q1, q2, q3]
        | false =>
          have HDz : Hid (Dr w1 R cb (cb + 1) a len cap n1 n2 n3 (.slice av nx cv) xs w7) := HD7.out
          have HOz : Hid (w7.ownsRow (cb + 1) 2 1 u8 ts.length (ts.map (Value.int .i64))) := HO7.out
          have hDz := HDz.out
          obtain ⟨hrc, hrf, hbe⟩ := HRB.out w7 hDz.grown
          obtain ⟨⟨v0, e0⟩, ⟨v1, e1⟩, ⟨v2, e2⟩, ⟨v3, e3⟩⟩ := And.intro (hrc 0 (by decide)) (And.intro (hrc 1 (by decide)) (And.intro (hrc 2 (by decide)) (hrc 3 (by decide))))
          have f0 := hrf 0
          have f1 := hrf 1
          have f2 := hrf 2
          have f3 := hrf 3
          have g0 := hDz.c0
          have g1 := hDz.c1
          have g2 := hDz.c2
          have g3 := hDz.c3
          have HBE : Hid (Below w.heap.size w (put4 w7 w.heap.size (.int .i64 n1) (.int .i64 n2) (.int .i64 n3) (.slice av nx cv))) := (((hbe.setCell (p := ⟨w.heap.size, 0, none⟩) (Nat.le_refl _) _).setCell (p := ⟨w.heap.size, 1, none⟩) (Nat.le_refl _) _).setCell (p := ⟨w.heap.size, 2, none⟩) (Nat.le_refl _) _).setCell (p := ⟨w.heap.size, 3, none⟩) (Nat.le_refl _) _
          have HQ : Hid (_ ∧ _ ∧ _ ∧ _) := got4 hrc (.int .i64 n1) (.int .i64 n2) (.int .i64 n3) (.slice av nx cv)
          have HOS : Hid ((put4 w7 w.heap.size (.int .i64 n1) (.int .i64 n2) (.int .i64 n3) (.slice av nx cv)).ownsRow w.heap.size 9 1 (.slice av nx cv) xs.length (xs.map Value.string)) := own_mono (obj.row_aside (obj.row_aside (obj.row_aside (obj.row_aside hDz.own HCBW.out.2) HCBW.out.2) HCBW.out.2) HCBW.out.2) (by have := HCBW.out; omega)
          have HOI : Hid ((put4 w7 w.heap.size (.int .i64 n1) (.int .i64 n2) (.int .i64 n3) (.slice av nx cv)).ownsRow w.heap.size 2 1 u8 (ts).length ((ts).map (Value.int .i64))) := own_mono (obj.row_aside (obj.row_aside (obj.row_aside (obj.row_aside HOz.out (by have := HCBW.out; omega)) (by have := HCBW.out; omega)) (by have := HCBW.out; omega)) (by have := HCBW.out; omega)) (by have := HCBW.out; omega)
          clear hDz hrc hrf hbe
          go_wp2
          refine bodyPost_ret (v := .tuple #[.agg #[.int .i64 n1, .int .i64 n2, .int .i64 n3, .slice av nx cv], .string s0, u8]) ?_ rfl ⟨⟨n1, n2, n3, .slice av nx cv, u8, s0, rfl, HBD.out, HSS.out, xs, ts, HXS.out.2.1, HXS.out.2.2, by have := HTL.out; omega, HOS.out, HOI.out⟩, HBE.out⟩
          obtain ⟨q0, q1, q2, q3⟩ := HQ.out
          unfold put4 at q0 q1 q2 q3
          simp [results, Try.results8, go_sem, q0, q1, q2, q3]
end Go.Proofs.Ytomlogkbndmaaaa.rd
