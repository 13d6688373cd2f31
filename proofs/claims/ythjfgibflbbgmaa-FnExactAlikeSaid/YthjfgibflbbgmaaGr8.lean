/-
  Graphs in variables, and their marks: what stays of all else.
-/
import Derived.Test.YthjfgibflbbgmaaGr4
import Derived.Test.YthjfgibflbbgmaaTxt
namespace Go.Proofs.Ythjfgibflbbgmaa.gr
open Go.RowKit
open kinds ints obj txt

/-- What is kept: all blocks but those from lo on and below hi. -/
def Sp (lo hi : Nat) (w w' : World) : Prop := w'.os = w.os ∧ w'.tape = w.tape ∧ w'.output = w.output ∧ w.heap.size ≤ w'.heap.size ∧ ∀ k, k < w.heap.size → (k < lo ∨ hi ≤ k) → w'.heap[k]? = w.heap[k]?
theorem Sp.refl (lo hi : Nat) (w : World) : Sp lo hi w w := ⟨rfl, rfl, rfl, Nat.le_refl _, fun _ _ _ => rfl⟩
theorem Sp.trans {lo hi : Nat} {a b c : World} (h : Sp lo hi a b) (k : Sp lo hi b c) : Sp lo hi a c :=
  ⟨k.1.trans h.1, k.2.1.trans h.2.1, k.2.2.1.trans h.2.2.1, Nat.le_trans h.2.2.2.1 k.2.2.2.1, fun i h1 h2 => (k.2.2.2.2 i (Nat.lt_of_lt_of_le h1 h.2.2.2.1) h2).trans (h.2.2.2.2 i h1 h2)⟩
theorem Sp.grown {lo hi g : Nat} {w w' : World} (h : w.grownBy w' (some g)) (hl : lo ≤ g) (hh : g < hi) : Sp lo hi w w' :=
  ⟨h.os, h.tape, h.output, h.size, fun k hk hkl => h.block k hk (fun e => by have := Option.some.inj e; omega)⟩
theorem Sp.set (lo hi g j : Nat) (w : World) (x : Value) (hl : lo ≤ g) (hh : g < hi) : Sp lo hi w (w.setCell ⟨g, j, none⟩ x) := Sp.grown (grown_set _ _ _ _) hl hh
theorem Sp.below {lo hi : Nat} {w w' : World} (hb : Below w.heap.size w w') : Sp lo hi w w' := ⟨hb.os, hb.tape, hb.output, hb.size, fun k hk _ => hb.block k hk⟩
theorem Sp.low {lo hi B : Nat} {w w' : World} (h : Sp lo hi w w') (hB : B ≤ lo) (hs : B ≤ w.heap.size) : Below B w w' := ⟨h.1, h.2.1, h.2.2.1, h.2.2.2.1, fun k hk => h.2.2.2.2 k (Nat.lt_of_lt_of_le hk hs) (.inl (Nat.lt_of_lt_of_le hk hB))⟩
theorem ints_span {w w' : World} {a : Option Addr} {g lo hi : Nat} {xs : List Int} (h : Ints w a g xs) (hs : Sp lo hi w w') (hne : 0 < xs.length → g < lo ∨ hi ≤ g) : Ints w' a g xs := fun i hi => by
  obtain ⟨e, h0, h1⟩ := h i hi
  have hk := hs.2.2.2.2 g (World.block_lt_of_cell? w _ h0) (hne (by omega))
  exact ⟨e, by rw [World.cell?_of_block (a := ⟨g, i, none⟩) hk]; exact h0, by rw [World.frozen?_of_block (a := ⟨g, i, none⟩) hk]; exact h1⟩
/-- No cell is lost, and what may be written may still be. -/
def Stay (w w' : World) : Prop := (∀ a v, w.cell? a = some v → ∃ v', w'.cell? a = some v') ∧ ∀ a, w'.frozen? a = w.frozen? a
theorem Stay.refl (w : World) : Stay w w := ⟨fun _ v h => ⟨v, h⟩, fun _ => rfl⟩
theorem Stay.trans {a b c : World} (h : Stay a b) (k : Stay b c) : Stay a c := ⟨fun p v q => by
  obtain ⟨v1, q1⟩ := h.1 p v q
  exact k.1 p v1 q1, fun p => (k.2 p).trans (h.2 p)⟩
theorem Stay.set (w : World) (p : Addr) (x : Value) : Stay w (w.setCell p x) := ⟨fun a v h => by
  by_cases e : p = a
  · subst e
    exact ⟨x, World.cell?_setCell_same _ _ _ h⟩
  · exact ⟨v, by rw [World.cell?_setCell_other _ _ _ _ e]; exact h⟩, fun a => World.frozen?_setCell _ _ _ _⟩
theorem txts_of {w : World} {g : Nat} {xs : List ByteArray} (h1 : Strs w (some ⟨g, 0, none⟩) xs) (h2 : SRow w g xs.length) : Txts w (some ⟨g, 0, none⟩) g xs := fun i hi => by
  obtain ⟨b, off, e, h⟩ := h1 i hi
  simp at e
  obtain ⟨rfl, rfl⟩ := e
  rw [Nat.zero_add] at h
  exact ⟨rfl, h, (h2 i hi).2⟩
theorem markInt64S_wide (w : World) (a : Option Addr) (g n cap : Nat) (k : Nat) (ha : ∀ i, i < n → a = some ⟨g, 0, none⟩ ∧ (∃ v, w.cell? ⟨g, i, none⟩ = some v) ∧ w.frozen? ⟨g, i, none⟩ = false) (hn : n ≤ 1048576) (hk1 : k ≤ 1125899906842624) (lo hi : Nat) (hlh : 0 < n → lo ≤ g ∧ g < hi) :
    Calls Try.prog 21 #[.slice a n cap, .int .i64 (k : Int)] w fun e w' => e = .returned (.int .i64 ((k + n : Nat) : Int)) ∧ Sp lo hi w w' ∧ (∀ i, i ≠ g → w'.heap[i]? = w.heap[i]?) ∧ Stay w w' := by
  have HLH : Hid (0 < n → lo ≤ g ∧ g < hi) := hlh
  clear hlh
  have HA : Hid (∀ i, i < n → a = some ⟨g, 0, none⟩ ∧ (∃ v, w.cell? ⟨g, i, none⟩ = some v) ∧ w.frozen? ⟨g, i, none⟩ = false) := ha
  clear ha
  go_enter Try.func21, Try.ntmps21
  go_wp2
  go_loopw [1, 5] (fun m i wr => ∃ j : Nat, j ≤ n ∧ i = .int .i64 j ∧ m = .int .i64 ((k + j : Nat) : Int) ∧ Sp lo hi w wr ∧ (∀ i, i ≠ g → wr.heap[i]? = w.heap[i]?) ∧ Stay w wr) (fun _ i _ => n - (intOf i).toNat)
  case atStart => exact ⟨0, Nat.zero_le _, rfl, rfl, Sp.refl _ _ _, fun _ _ => rfl, Stay.refl _⟩
  case round =>
    obtain ⟨j, hj, rfl, rfl, hgr, hot, hst⟩ := hrel
    have HG : Hid (Sp lo hi w wr) := hgr
    have HO : Hid (∀ i, i ≠ g → wr.heap[i]? = w.heap[i]?) := hot
    have HS : Hid (Stay w wr) := hst
    clear hgr hot hst
    by_cases hlt : j < n
    · obtain ⟨hl1, hl2⟩ := HLH.out (by omega)
      have HL2 : Hid (lo ≤ g ∧ g < hi) := ⟨hl1, hl2⟩
      clear hl1 hl2
      obtain ⟨rfl, ⟨v0, d0⟩, f0⟩ := HA.out j hlt
      obtain ⟨v1, d1⟩ := HS.out.1 _ _ d0
      have f1 : wr.frozen? ⟨g, j, none⟩ = false := by rw [HS.out.2]; exact f0
      obtain ⟨km, hkm⟩ : ∃ km : Nat, km = k + j := ⟨_, rfl⟩
      rw [← hkm]
      have hkb : km ≤ 1125899907891200 := by omega
      have HKM : Hid (km = k + j) := hkm
      clear hkm d0 f0
      go_wp2
      go_roundw
      case rel => exact ⟨j + 1, by omega, by go_num, by have := HKM.out; go_num, HG.out.trans (Sp.set lo hi g _ _ _ HL2.out.1 HL2.out.2), fun i hi' => (Below.heap_setCell wr ⟨g, j, none⟩ _ i (fun e => hi' (by rw [e]))).trans (HO.out i hi'), HS.out.trans (Stay.set _ _ _)⟩
      case measure => simp [intOf]; omega
    · have : j = n := by omega
      subst this
      go_wp2
      go_ret
      exact ⟨rfl, HG.out, HO.out, HS.out⟩
/-- A graph in a variable of its own: its block, its rows; the values' rows lie below hi. -/
structure GVar (b gr gn hi : Nat) (rs : List Int) (ns : List Nd) (w : World) : Prop where
  c0 : w.cell? ⟨b, 0, none⟩ = some (.slice (some ⟨gr, 0, none⟩) rs.length rs.length)
  c1 : w.cell? ⟨b, 1, none⟩ = some (.slice (some ⟨gn, 0, none⟩) ns.length ns.length)
  ir : Ints w (some ⟨gr, 0, none⟩) gr rs
  cp : Copies w gn ns
  bd : ∀ i (hi' : i < ns.length) (gi : Nat), w.cell? ⟨gn, i * 2 + 1, none⟩ = some (.slice (some ⟨gi, 0, none⟩) ns[i].2.length ns[i].2.length) → 0 < ns[i].2.length → gi < hi
theorem GVar.lt {b gr gn hi : Nat} {rs : List Int} {ns : List Nd} {w : World} (h : GVar b gr gn hi rs ns w) : b < w.heap.size := World.block_lt_of_cell? w _ h.c0
theorem GVar.below {b gr gn hi : Nat} {rs : List Int} {ns : List Nd} {w w' : World} (h : GVar b gr gn hi rs ns w) (hb : Below w.heap.size w w') : GVar b gr gn hi rs ns w' :=
  ⟨by rw [hb.cell (p := ⟨b, 0, none⟩) h.lt]; exact h.c0, by rw [hb.cell (p := ⟨b, 1, none⟩) h.lt]; exact h.c1, h.ir.below hb, h.cp.below hb, fun i hi' gi e h0 => by
    obtain ⟨_, g1, e1, _⟩ := h.cp i hi'
    rw [hb.cell (p := ⟨gn, i * 2 + 1, none⟩) (World.block_lt_of_cell? w _ e1)] at e
    exact h.bd i hi' gi e h0⟩
theorem GVar.start (w : World) (gr gn : Nat) (rs : List Int) (ns : List Nd) (T : TypeId) (hr : Ints w (some ⟨gr, 0, none⟩) gr rs) (hc : Copies w gn ns) : GVar w.heap.size gr gn w.heap.size rs ns (w.alloc (.cells #[.slice (some ⟨gr, 0, none⟩) rs.length rs.length, .slice (some ⟨gn, 0, none⟩) ns.length ns.length] T)) := by
  have hb : Below w.heap.size w (w.alloc (.cells #[.slice (some ⟨gr, 0, none⟩) rs.length rs.length, .slice (some ⟨gn, 0, none⟩) ns.length ns.length] T)) := (Below.refl _ _).alloc (Nat.le_refl _) _
  refine ⟨by rw [World.cell?_alloc_new]; rfl, by rw [World.cell?_alloc_new]; rfl, hr.below hb, hc.below hb, fun i hi' gi e h0 => ?_⟩
  obtain ⟨_, g1, e1, h1, _⟩ := hc i hi'
  rw [hb.cell (p := ⟨gn, i * 2 + 1, none⟩) (World.block_lt_of_cell? w _ e1), e1] at e
  simp only [Option.some.injEq, Value.slice.injEq, Addr.mk.injEq, and_true] at e
  rw [← e]
  exact h1.lt h0
theorem GVar.span {b gr gn hi lo hj : Nat} {rs : List Int} {ns : List Nd} {w w' : World} (h : GVar b gr gn hi rs ns w) (hs : Sp lo hj w w') (hb : b < lo ∨ hj ≤ b) (hr : 0 < rs.length → gr < lo ∨ hj ≤ gr) (hn : 0 < ns.length → (gn < lo ∧ hi ≤ lo) ∨ hj ≤ gn) : GVar b gr gn hi rs ns w' := by
  have hkb := hs.2.2.2.2 b h.lt hb
  have hcell : ∀ i (hi' : i < ns.length), w'.heap[gn]? = w.heap[gn]? := fun i hi' => by
    obtain ⟨c0, _⟩ := h.cp i hi'
    exact hs.2.2.2.2 gn (World.block_lt_of_cell? w _ c0) ((hn (by omega)).imp (fun q => q.1) id)
  refine ⟨by rw [World.cell?_of_block (a := ⟨b, 0, none⟩) hkb]; exact h.c0, by rw [World.cell?_of_block (a := ⟨b, 1, none⟩) hkb]; exact h.c1, ints_span h.ir hs hr, fun i hi' => ?_, fun i hi' gi e h0 => ?_⟩
  · obtain ⟨c0, g1, e1, h1, h2, h3⟩ := h.cp i hi'
    have hk := hcell i hi'
    refine ⟨by rw [World.cell?_of_block (a := ⟨gn, i * 2, none⟩) hk]; exact c0, g1, by rw [World.cell?_of_block (a := ⟨gn, i * 2 + 1, none⟩) hk]; exact e1, ints_span h1 hs (fun h0 => ?_), h2, by rw [World.frozen?_of_block (a := ⟨gn, i * 2, none⟩) hk]; exact h3⟩
    have hb1 := h.bd i hi' g1 e1 h0
    rcases hn (by omega) with q | q
    · left; omega
    · right; omega
  · rw [World.cell?_of_block (a := ⟨gn, i * 2 + 1, none⟩) (hcell i hi')] at e
    exact h.bd i hi' gi e h0
set_option maxHeartbeats 2000000 in
set_option maxRecDepth 20000 in
theorem markObjS_any (w : World) (g cap n lo hi k : Nat) (ns : List Nd) (hx : ns.length = n) (hn : n ≤ 1048576) (hz : ∀ x ∈ ns, x.2.length ≤ 1048576) (hc : Copies w g ns) (hbd : ∀ i (hi' : i < ns.length) (gi : Nat), w.cell? ⟨g, i * 2 + 1, none⟩ = some (.slice (some ⟨gi, 0, none⟩) ns[i].2.length ns[i].2.length) → 0 < ns[i].2.length → gi < hi) (hlo : lo ≤ g) (hhi : 0 < n → g < hi) (hk : k ≤ 4194304) :
    Calls Try.prog 46 #[.slice (some ⟨g, 0, none⟩) n cap, .int .i64 (k : Int)] w fun e w' => ∃ m : Nat, e = .returned (.int .i64 (m : Int)) ∧ m ≤ 1125899906842624 ∧ Sp lo hi w w' := by
  have HX : Hid (ns.length = n) := hx
  have HZ : Hid (∀ x ∈ ns, x.2.length ≤ 1048576) := hz
  have HC : Hid (Copies w g ns) := hc
  have HBD : Hid (∀ i (hi' : i < ns.length) (gi : Nat), w.cell? ⟨g, i * 2 + 1, none⟩ = some (.slice (some ⟨gi, 0, none⟩) ns[i].2.length ns[i].2.length) → 0 < ns[i].2.length → gi < hi) := hbd
  have HLH : Hid (lo ≤ g ∧ (0 < n → g < hi)) := ⟨hlo, hhi⟩
  clear hx hz hc hbd hlo hhi
  go_enter Try.func46, Try.ntmps46
  go_wp2
  go_loopw [1, 5] (fun m i wr => ∃ j kk : Nat, j ≤ n ∧ i = .int .i64 (j : Int) ∧ m = .int .i64 (kk : Int) ∧ kk ≤ k + j * 1048577 ∧ Stay w wr ∧ Sp lo hi w wr ∧ ∀ i, i < n → wr.cell? ⟨g, i * 2 + 1, none⟩ = w.cell? ⟨g, i * 2 + 1, none⟩) (fun _ i _ => n - (intOf i).toNat)
  case atStart => exact ⟨0, k, Nat.zero_le _, rfl, rfl, by omega, Stay.refl _, Sp.refl _ _ _, fun _ _ => rfl⟩
  case round =>
    obtain ⟨j, kk, hj, rfl, rfl, hkk, hst, hsp, hhd⟩ := hrel
    have HS : Hid (Stay w wr) := hst
    have HSP : Hid (Sp lo hi w wr) := hsp
    have HHD : Hid (∀ i, i < n → wr.cell? ⟨g, i * 2 + 1, none⟩ = w.cell? ⟨g, i * 2 + 1, none⟩) := hhd
    have hkb : kk ≤ 1099516870656 := by
      have : j * 1048577 ≤ 1048576 * 1048577 := Nat.mul_le_mul_right _ (by omega)
      omega
    have HKK : Hid (kk ≤ k + j * 1048577) := hkk
    clear hst hsp hhd hkk
    by_cases hlt : j < n
    · have hjl : j < ns.length := by have := HX.out; omega
      have hlti : (j : Int) < (n : Int) := by omega
      have hj0 : (0 : Int) ≤ (j : Int) := by omega
      obtain ⟨c0, gi, c1, hin, hgi, hf⟩ := HC.out j hjl
      have hbd := HBD.out j hjl gi c1
      have hvl := HZ.out ns[j] (List.getElem_mem hjl)
      obtain ⟨v1, d0⟩ := HS.out.1 _ _ c0
      have f0 : wr.frozen? ⟨g, j * 2, none⟩ = false := by rw [HS.out.2]; exact hf
      have d1 : wr.cell? ⟨g, j * 2 + 1, none⟩ = some (.slice (some ⟨gi, 0, none⟩) ns[j].2.length ns[j].2.length) := by rw [HHD.out j hlt]; exact c1
      have HIN : Hid (∀ i, i < ns[j].2.length → (some ⟨gi, 0, none⟩ : Option Addr) = some ⟨gi, 0, none⟩ ∧ (∃ v, w.cell? ⟨gi, i, none⟩ = some v) ∧ w.frozen? ⟨gi, i, none⟩ = false) := fun i hi => by
        obtain ⟨_, q0, q1⟩ := hin i hi
        exact ⟨rfl, ⟨_, q0⟩, q1⟩
      have HGI : Hid (g < gi ∧ (0 < ns[j].2.length → gi < hi)) := ⟨hgi, hbd⟩
      generalize ns[j].2.length = vl at d1 HIN HGI hvl
      obtain ⟨X, hX⟩ : ∃ X, X = wr.setCell ⟨g, j * 2, none⟩ (.int .i64 (kk : Int)) := ⟨_, rfl⟩
      have HX1 : Hid (X = wr.setCell ⟨g, j * 2, none⟩ (.int .i64 (kk : Int))) := hX
      have HSX : Hid (Stay w X) := by show Stay w X; rw [hX]; exact HS.out.trans (Stay.set _ _ _)
      have HPX : Hid (Sp lo hi w X) := by show Sp lo hi w X; rw [hX]; exact HSP.out.trans (Sp.set lo hi g _ _ _ HLH.out.1 (HLH.out.2 (by omega)))
      have ne : ∀ i, (⟨g, j * 2, none⟩ : Addr) ≠ ⟨g, i * 2 + 1, none⟩ := fun i q => by have : j * 2 = i * 2 + 1 := congrArg Addr.off q; omega
      have HHX : Hid (∀ i, i < n → X.cell? ⟨g, i * 2 + 1, none⟩ = w.cell? ⟨g, i * 2 + 1, none⟩) := fun i hi => by rw [hX, World.cell?_setCell_other _ _ _ _ (ne i)]; exact HHD.out i hi
      have e1 : X.cell? ⟨g, j * 2 + 1, none⟩ = some (.slice (some ⟨gi, 0, none⟩) vl vl) := by rw [hX, World.cell?_setCell_other _ _ _ _ (ne j)]; exact d1
      have HMK : Hid (Calls _ _ _ X _) := markInt64S_wide X (some ⟨gi, 0, none⟩) gi vl vl (kk + 1) (fun i hi => by
        obtain ⟨q0, ⟨v, q1⟩, q2⟩ := HIN.out i hi
        exact ⟨q0, HSX.out.1 _ _ q1, by rw [HSX.out.2]; exact q2⟩) hvl (by omega) lo hi (fun h0 => ⟨by have := HLH.out.1; have := HGI.out.1; omega, HGI.out.2 h0⟩)
      obtain ⟨k1, hk1⟩ : ∃ k1 : Nat, k1 = kk + 1 := ⟨_, rfl⟩
      have HK1 : Hid (k1 = kk + 1) := hk1
      rw [← hk1] at HMK
      have hkw : (kk : Int) + 1 = (k1 : Int) := by omega
      have hk1b : k1 ≤ 1099516870657 := by omega
      clear c0 hin hgi hf hbd c1 hX ne hk1 d1
      go_wp2_with (rw [← HX1.out])
      try rw [hkw]
      refine HMK.out.mono ?_
      rintro e w5 ⟨rfl, hp5, ho5, hs5⟩
      have HS5 : Hid (Stay w w5) := HSX.out.trans hs5
      have HP5 : Hid (Sp lo hi w w5) := HPX.out.trans hp5
      have HH5 : Hid (∀ i, i < n → w5.cell? ⟨g, i * 2 + 1, none⟩ = w.cell? ⟨g, i * 2 + 1, none⟩) := fun i hi => by
        rw [World.cell?_of_block (a := ⟨g, i * 2 + 1, none⟩) (ho5 g (by have := HGI.out.1; omega))]
        exact HHX.out i hi
      have HK5 : Hid (k1 + vl ≤ k + (j + 1) * 1048577) := by
        have h1 := HKK.out
        have h2 := HK1.out
        show k1 + vl ≤ _
        omega
      clear hp5 ho5 hs5 e1 hkw d0 f0
      go_wp2
      go_roundw
      case rel => exact ⟨j + 1, k1 + vl, by omega, by go_num, rfl, HK5.out, HS5.out, HP5.out, HH5.out⟩
      case measure => simp [intOf]; omega
    · go_wp2
      go_ret
      exact ⟨kk, rfl, by omega, HSP.out⟩
set_option maxHeartbeats 1000000 in
theorem markGraph_any (w : World) (gr gn lo hi k : Nat) (rs : List Int) (ns : List Nd) (hr : rs.length ≤ 1048576) (hn : ns.length ≤ 1048576) (hz : ∀ x ∈ ns, x.2.length ≤ 1048576) (hi1 : Ints w (some ⟨gr, 0, none⟩) gr rs) (hc : Copies w gn ns) (hbd : ∀ i (hi' : i < ns.length) (gi : Nat), w.cell? ⟨gn, i * 2 + 1, none⟩ = some (.slice (some ⟨gi, 0, none⟩) ns[i].2.length ns[i].2.length) → 0 < ns[i].2.length → gi < hi) (hlr : lo ≤ gr) (hrn : gr < gn) (hnh : gn < hi) (hgrs : gr < w.heap.size) (hk : k ≤ 2097152) :
    Calls Try.prog 20 #[.agg #[.slice (some ⟨gr, 0, none⟩) rs.length rs.length, .slice (some ⟨gn, 0, none⟩) ns.length ns.length], .int .i64 (k : Int)] w fun e w' => ∃ m : Nat, e = .returned (.int .i64 (m : Int)) ∧ m ≤ 1125899906842624 ∧ Sp lo hi w w' := by
  obtain ⟨W, hW⟩ : ∃ W, W = w.alloc (.cells #[.slice (some ⟨gr, 0, none⟩) rs.length rs.length, .slice (some ⟨gn, 0, none⟩) ns.length ns.length] 33) := ⟨_, rfl⟩
  have HW : Hid (W = w.alloc (.cells #[.slice (some ⟨gr, 0, none⟩) rs.length rs.length, .slice (some ⟨gn, 0, none⟩) ns.length ns.length] 33)) := hW
  have hb0 : Below w.heap.size w W := by rw [hW]; exact (Below.refl _ _).alloc (Nat.le_refl _) _
  have HB0 : Hid (Below w.heap.size w W) := hb0
  have hWs : w.heap.size < W.heap.size := by rw [hW]; simp
  have k0 : W.cell? ⟨w.heap.size, 0, none⟩ = some (.slice (some ⟨gr, 0, none⟩) rs.length rs.length) := by rw [hW, World.cell?_alloc_new]; rfl
  have k1 : W.cell? ⟨w.heap.size, 1, none⟩ = some (.slice (some ⟨gn, 0, none⟩) ns.length ns.length) := by rw [hW, World.cell?_alloc_new]; rfl
  have HK1 : Hid (W.cell? ⟨w.heap.size, 1, none⟩ = some (.slice (some ⟨gn, 0, none⟩) ns.length ns.length)) := k1
  have hiW := hi1.below hb0
  have hcW := hc.below hb0
  have HRS : Hid (gr < w.heap.size) := hgrs
  have HM1 : Hid (Calls _ _ _ W _) := markInt64S_wide W (some ⟨gr, 0, none⟩) gr rs.length rs.length k (fun i hi => by
    obtain ⟨_, q0, q1⟩ := hiW i hi
    exact ⟨rfl, ⟨_, q0⟩, q1⟩) hr (by omega) lo hi (fun _ => ⟨hlr, by omega⟩)
  have HM2 : Hid (∀ (w' : World) (m : Nat), m ≤ 4194304 → (∀ i, i ≠ gr → w'.heap[i]? = W.heap[i]?) → Calls Try.prog 46 #[.slice (some ⟨gn, 0, none⟩) ns.length ns.length, .int .i64 (m : Int)] w' fun e w'' => ∃ q : Nat, e = .returned (.int .i64 (q : Int)) ∧ q ≤ 1125899906842624 ∧ Sp lo hi w' w'') := fun w' m hm ho => by
    have hk : w'.heap[gn]? = W.heap[gn]? := ho gn (by omega)
    refine markObjS_any w' gn ns.length ns.length lo hi m ns rfl hn hz (fun i hi' => ?_) (fun i hi' gi e h0 => ?_) (by omega) (fun _ => hnh) hm
    · obtain ⟨c0, gi, c1, h1, h2, h3⟩ := hcW i hi'
      have hki : w'.heap[gi]? = W.heap[gi]? := ho gi (by omega)
      exact ⟨by rw [World.cell?_of_block (a := ⟨gn, i * 2, none⟩) hk]; exact c0, gi, by rw [World.cell?_of_block (a := ⟨gn, i * 2 + 1, none⟩) hk]; exact c1, (fun j hj => by
        obtain ⟨q0, q1, q2⟩ := h1 j hj
        exact ⟨q0, by rw [World.cell?_of_block (a := ⟨gi, j, none⟩) hki]; exact q1, by rw [World.frozen?_of_block (a := ⟨gi, j, none⟩) hki]; exact q2⟩), h2, by rw [World.frozen?_of_block (a := ⟨gn, i * 2, none⟩) hk]; exact h3⟩
    · obtain ⟨_, g1, e1, _⟩ := hc i hi'
      have e2 := e
      rw [World.cell?_of_block (a := ⟨gn, i * 2 + 1, none⟩) hk, hb0.cell (p := ⟨gn, i * 2 + 1, none⟩) (World.block_lt_of_cell? w _ e1)] at e2
      exact hbd i hi' gi e2 h0
  have HSP : Hid (Sp lo hi w W) := Sp.below hb0
  have hrl : rs.length ≤ 1048576 := hr
  clear hW hb0 hWs hiW hcW hr hn hz hi1 hc hbd hlr hrn hnh hgrs
  generalize rs.length = rl at HM1 k0 HW hrl ⊢
  go_enter Try.func20, Try.ntmps20
  go_wp2_with (rw [← HW.out])
  refine HM1.out.mono ?_
  rintro e w2 ⟨rfl, hp2, ho2, _⟩
  have HP2 : Hid (Sp lo hi w w2) := HSP.out.trans hp2
  have HM3 : Hid (Calls _ _ _ w2 _) := HM2.out w2 (k + rl) (by omega) ho2
  have k2 : w2.cell? ⟨w.heap.size, 1, none⟩ = some (.slice (some ⟨gn, 0, none⟩) ns.length ns.length) := by rw [World.cell?_of_block (a := ⟨w.heap.size, 1, none⟩) (ho2 w.heap.size (by have := HRS.out; omega))]; exact HK1.out
  clear hp2 ho2 k0 k1
  go_wp2_with fail
  refine HM3.out.mono ?_
  rintro e w3 ⟨m, rfl, hm, hp3⟩
  have HP3 : Hid (Sp lo hi w w3) := HP2.out.trans hp3
  clear hp3 k2
  go_wp2
  go_ret
  exact ⟨m, rfl, hm, HP3.out⟩
end Go.Proofs.Ythjfgibflbbgmaa.gr
