/-
  Who is reached, and the lines for a graph: by the program and by the specification.
-/
import Derived.Test.YthjfgibflbbgmaaGsSrch
import Derived.Test.YthjfgibflbbgmaaGr7
import Derived.Deep.RegionHeld3
namespace Go.Proofs.Ythjfgibflbbgmaa.gs
open Go.RowKit
open kinds ints obj ref gr cl

/-- The places below n that are found, in order. -/
def reachK (F : List Int) : Nat → List Int
  | 0 => []
  | n + 1 => if (n : Int) ∈ F then reachK F n ++ [(n : Int)] else reachK F n
theorem reachK_len (F : List Int) (n : Nat) : (reachK F n).length ≤ n := by
  induction n with
  | zero => simp [reachK]
  | succ n ih =>
    rw [reachK]
    split
    · rw [List.length_append]; simp; omega
    · omega
def reachS (xs : List ByteArray) (rs : List Int) (ns : List Nd) : List Int := if graphB xs rs ns = true then reachK (foundG xs rs ns) ns.length else []
theorem reachS_len (xs : List ByteArray) (rs : List Int) (ns : List Nd) : (reachS xs rs ns).length ≤ 1048576 := by
  unfold reachS
  split
  · rename_i h
    have := (graph_facts h).2.2.1
    have := reachK_len (foundG xs rs ns) ns.length
    omega
  · simp
/-- The lines for the first of these places. -/
def linesK (xs : List ByteArray) (ns : List Nd) (F : List Int) : Nat → Int
  | 0 => 0
  | k + 1 => linesK xs ns F k + runOf (kd xs (ns.getD (F.getD k 0).toNat (0, [])).1)
theorem runOf_3 (s : ByteArray) : 0 ≤ runOf s ∧ runOf s ≤ 3 := by
  unfold runOf
  split
  · rename_i h
    have := isType_size h
    omega
  · omega
theorem linesK_in (xs : List ByteArray) (ns : List Nd) (F : List Int) (k : Nat) : 0 ≤ linesK xs ns F k ∧ linesK xs ns F k ≤ 3 * (k : Int) := by
  induction k with
  | zero => simp [linesK]
  | succ k ih =>
    rw [linesK]
    have := runOf_3 (kd xs (ns.getD (F.getD k 0).toNat (0, [])).1)
    omega
def linesS (xs : List ByteArray) (rs : List Int) (ns : List Nd) : Int := if graphB xs rs ns = true then linesK xs ns (foundG xs rs ns) (foundG xs rs ns).length else -1
/-- An answer that is one list of the call's own. -/
def LOut (vs : List Int) (w : World) (e : Ending) (w' : World) : Prop := ∃ a g c, e = .returned (.slice a vs.length c) ∧ w.heap.size ≤ g ∧ Ints w' a g vs ∧ Below w.heap.size w w'
theorem lout_none {w w' : World} {e : Ending} {vs : List Int} (hv : vs = []) (he : e = .returned (.slice none 0 0)) (hb : Below w.heap.size w w') : LOut vs w e w' := by
  subst hv
  exact ⟨none, w.heap.size, 0, he, Nat.le_refl _, (fun i hi => by cases hi), hb⟩
set_option maxHeartbeats 4000000 in
set_option maxRecDepth 20000 in
theorem spec_reached (w : World) (a : Option Addr) (cap : Nat) (xs : List ByteArray) (b : Option Addr) (vc : Nat) (rs : List Int) (c : Option Addr) (cc : Nat) (ns : List Nd) (hn : xs.length ≤ 1048576) (hz : ∀ i (hi : i < xs.length), xs[i].size ≤ 1048576) (hrl : rs.length ≤ 1048576) (hnl : ns.length ≤ 1048576) (hl : Strs w a xs) (hr : Nums w b rs) (hg : Nodes w c ns) :
    Calls Try.prog 12 #[.slice a xs.length cap, .agg #[.slice b rs.length vc, .slice c ns.length cc]] w fun e w' => LOut (reachS xs rs ns) w e w' := by
  obtain ⟨W, hW⟩ : ∃ W, W = w.alloc (.cells #[.slice b rs.length vc, .slice c ns.length cc] 33) := ⟨_, rfl⟩
  have HW : Hid (W = w.alloc (.cells #[.slice b rs.length vc, .slice c ns.length cc] 33)) := hW
  have hb0 : Below w.heap.size w W := by rw [hW]; exact (Below.refl _ _).alloc (Nat.le_refl _) _
  have HB0 : Hid (Below w.heap.size w W) := hb0
  have hsz : w.heap.size < W.heap.size := by rw [hW]; simp
  have k0 : W.cell? ⟨w.heap.size, 0, none⟩ = some (.slice b rs.length vc) := by rw [hW, World.cell?_alloc_new]; rfl
  have k1 : W.cell? ⟨w.heap.size, 1, none⟩ = some (.slice c ns.length cc) := by rw [hW, World.cell?_alloc_new]; rfl
  have HCS : Hid (∀ w', Below W.heap.size W w' → w'.cell? ⟨w.heap.size, 0, none⟩ = some (.slice b rs.length vc) ∧ w'.cell? ⟨w.heap.size, 1, none⟩ = some (.slice c ns.length cc)) := fun w' h =>
    ⟨by rw [h.cell (p := ⟨w.heap.size, 0, none⟩) hsz]; exact k0, by rw [h.cell (p := ⟨w.heap.size, 1, none⟩) hsz]; exact k1⟩
  have HGO : Hid (Calls _ _ _ W _) := spec_graphok W a cap xs b vc rs c cc ns hn hz hrl hnl (hl.below hb0) (hr.below hb0) (hg.below hb0)
  have HFN : Hid (graphB xs rs ns = true → ∀ w', Below W.heap.size W w' → Calls _ _ _ w' _) := fun h w' hb => spec_found w' a cap xs b vc rs c cc ns h ((hl.below hb0).below hb) ((hr.below hb0).below hb) ((hg.below hb0).below hb)
  have HD : Hid (reachS xs rs ns = if graphB xs rs ns = true then reachK (foundG xs rs ns) ns.length else []) := rfl
  have HGF : Hid (graphB xs rs ns = true → ns.length ≤ 400 ∧ (foundG xs rs ns).length ≤ 400) := fun h => by
    obtain ⟨_, _, h400, hin, hnd⟩ := graph_facts h
    obtain ⟨h1, h2⟩ := foundG_good hin hnd
    have := good_len h1 h2
    exact ⟨h400, by omega⟩
  generalize reachS xs rs ns = res at HD ⊢
  clear hW hb0 hl hr hg hsz hn hz hrl hnl
  cases hok : graphB xs rs ns with
  | false =>
    rw [hok] at HGO HD
    have HRS : Hid (res = []) := by show res = []; rw [HD.out]; rfl
    clear hok HD HFN HGF
    go_enter Try.func12, Try.ntmps12
    go_wp2_with (rw [← HW.out])
    refine HGO.out.mono ?_
    rintro e w2 ⟨rfl, hb2⟩
    have HB2 : Hid (Below w.heap.size w w2) := HB0.out.trans (hb2.mono HB0.out.size)
    clear hb2 k0 k1
    go_wp2
    go_ret
    exact lout_none HRS.out rfl HB2.out
  | true =>
    rw [hok] at HGO HD
    have HRS : Hid (res = reachK (foundG xs rs ns) ns.length) := by show res = _; rw [HD.out]; rfl
    have HF2 := HFN.out hok
    have HF3 : Hid (∀ w', Below W.heap.size W w' → Calls _ _ _ w' _) := HF2
    obtain ⟨h400, hf4⟩ := HGF.out hok
    generalize foundG xs rs ns = F at HRS HF3 hf4
    clear hok HD HFN HGF HF2
    go_enter Try.func12, Try.ntmps12
    go_wp2_with (rw [← HW.out])
    refine HGO.out.mono ?_
    rintro e w2 ⟨rfl, hb2⟩
    have HB2 : Hid (Below W.heap.size W w2) := hb2
    clear hb2 k0 k1
    obtain ⟨k0, k1⟩ := HCS.out w2 HB2.out
    go_wp2_with fail
    refine (HF3.out w2 HB2.out).mono ?_
    rintro e w3 ⟨fa, fg, fc, rfl, hfg, hfi, hb3⟩
    have HB3 : Hid (Below W.heap.size W w3) := HB2.out.trans (hb3.mono HB2.out.size)
    have HFI : Hid (∀ w', Below w3.heap.size w3 w' → Nums w' fa F) := fun w' h => (hfi.below h).nums
    obtain ⟨X, hX⟩ : ∃ X, X = w3.alloc (.cells #[] 2) := ⟨_, rfl⟩
    have HX : Hid (X = w3.alloc (.cells #[] 2)) := hX
    have hbX : Below w3.heap.size w3 X := by rw [hX]; exact (Below.refl _ _).alloc (Nat.le_refl _) _
    have HBX : Hid (Below w3.heap.size w3 X) := hbX
    have HO0 : Hid (X.ownsRow w3.heap.size 2 1 (.slice (some ⟨w3.heap.size, 0, none⟩) 0 0) (reachK F 0).length ((reachK F 0).map (Value.int .i64))) := ⟨rfl, .inr ⟨w3.heap.size, 0, #[], rfl, Nat.le_refl _, by rw [hX]; exact heap_alloc_last w3 _, Nat.le_refl _, Nat.zero_le _, rfl, rfl⟩⟩
    clear hfg hfi hb3 hX hbX k0 k1
    obtain ⟨k0, k1⟩ := HCS.out X (HB3.out.trans (HBX.out.mono HB3.out.size))
    have HCX : Hid (∀ w', Below w3.heap.size w3 w' → w'.cell? ⟨w.heap.size, 1, none⟩ = some (.slice c ns.length cc)) := fun w' h => (HCS.out w' (HB3.out.trans (h.mono HB3.out.size))).2
    go_wp2_with (rw [← HX.out])
    clear k0 k1
    go_loopw [6, 7] (fun v i wr => ∃ k : Nat, k ≤ ns.length ∧ i = .int .i64 (k : Int) ∧ wr.ownsRow w3.heap.size 2 1 v (reachK F k).length ((reachK F k).map (Value.int .i64)) ∧ Below w3.heap.size w3 wr) (fun _ i _ => ns.length - (intOf i).toNat)
    case atStart => exact ⟨0, Nat.zero_le _, rfl, HO0.out, HBX.out⟩
    case round =>
      clear HO0 HBX HX
      obtain ⟨k, hk, rfl, hown, hb⟩ := hrel
      have HOW : Hid (wr.ownsRow w3.heap.size 2 1 u6 (reachK F k).length ((reachK F k).map (Value.int .i64))) := hown
      have HB : Hid (Below w3.heap.size w3 wr) := hb
      clear hown hb
      have k1 := HCX.out wr HB.out
      by_cases hlt : k < ns.length
      · have hlti : (k : Int) < (ns.length : Int) := by omega
        have hk0 : (0 : Int) ≤ (k : Int) := by omega
        have hk4 : k ≤ 400 := by omega
        have HRK : Hid (reachK F (k + 1) = if (k : Int) ∈ F then reachK F k ++ [(k : Int)] else reachK F k) := rfl
        have HLK : Hid ((reachK F k).length ≤ 1048576) := by have := reachK_len F k; show _ ≤ _; omega
        have HPL : Hid (∀ w', w' = wr → Calls _ _ _ w' _) := fun w' q => place_any w' fa F.length fc F (k : Int) rfl (by omega) (q ▸ HFI.out wr HB.out)
        have hsk := seek_all (k : Int) F
        generalize reachK F k = M at HOW HRK HLK
        generalize seekI (k : Int) F F.length = sk at HPL hsk
        by_cases hq : (0 : Int) ≤ sk
        · rw [if_pos (hsk.1 hq)] at HRK
          clear hsk
          go_wp2_with fail
          refine (HPL.out wr rfl).mono ?_
          rintro e w5 ⟨rfl, rfl⟩
          go_wp2_with (refine wpList_push wr (by rfl) _ _ (by rfl) w3.heap.size u6 M (k : Int) HOW.out (by rfl) (by rfl) HLK.out HB.out.size ?_; intro g2 c2 w6 hown6 hb6 hB6; have HO6 : Hid (_) := hown6; have HB6 : Hid (Below w3.heap.size w3 w6) := HB.out.trans hb6; clear hown6 hb6 hB6)
          go_roundw
          case rel => exact ⟨k + 1, by omega, by go_num, by rw [HRK.out]; exact HO6.out, HB6.out⟩
          case measure => simp [intOf]; omega
        · rw [if_neg (fun h => hq (hsk.2 h))] at HRK
          clear hsk
          go_wp2_with fail
          refine (HPL.out wr rfl).mono ?_
          rintro e w5 ⟨rfl, rfl⟩
          go_wp2
          go_roundw
          case rel => exact ⟨k + 1, by omega, by go_num, by rw [HRK.out]; exact HOW.out, HB.out⟩
          case measure => simp [intOf]; omega
      · obtain rfl : k = ns.length := by omega
        obtain ⟨ar, gr, cr, rfl, hgr, hir⟩ := ints_of_row HOW.out
        have HIR : Hid (Ints wr ar gr (reachK F ns.length)) := hir
        have HGR : Hid (w.heap.size ≤ gr) := by have := HB0.out.size; have := HB3.out.size; show w.heap.size ≤ gr; omega
        have HBE : Hid (Below w.heap.size w wr) := HB0.out.trans ((HB3.out.trans (HB.out.mono HB3.out.size)).mono HB0.out.size)
        clear hir hgr
        go_wp2
        go_ret
        have hres := HRS.out
        subst hres
        exact ⟨ar, gr, cr, rfl, HGR.out, HIR.out, HBE.out⟩
set_option maxHeartbeats 4000000 in
set_option maxRecDepth 20000 in
theorem impl_reached (w : World) (a : Option Addr) (cap : Nat) (xs : List ByteArray) (b : Option Addr) (vc : Nat) (rs : List Int) (c : Option Addr) (cc : Nat) (ns : List Nd) (hn : xs.length ≤ 1048576) (hz : ∀ i (hi : i < xs.length), xs[i].size ≤ 1048576) (hrl : rs.length ≤ 1048576) (hnl : ns.length ≤ 1048576) (hl : Strs w a xs) (hr : Nums w b rs) (hg : Nodes w c ns) :
    Calls Try.prog 15 #[.slice a xs.length cap, .agg #[.slice b rs.length vc, .slice c ns.length cc]] w fun e w' => LOut (reachS xs rs ns) w e w' := by
  obtain ⟨W, hW⟩ : ∃ W, W = w.alloc (.cells #[.slice b rs.length vc, .slice c ns.length cc] 33) := ⟨_, rfl⟩
  have HW : Hid (W = w.alloc (.cells #[.slice b rs.length vc, .slice c ns.length cc] 33)) := hW
  have hb0 : Below w.heap.size w W := by rw [hW]; exact (Below.refl _ _).alloc (Nat.le_refl _) _
  have HB0 : Hid (Below w.heap.size w W) := hb0
  have k0 : W.cell? ⟨w.heap.size, 0, none⟩ = some (.slice b rs.length vc) := by rw [hW, World.cell?_alloc_new]; rfl
  have k1 : W.cell? ⟨w.heap.size, 1, none⟩ = some (.slice c ns.length cc) := by rw [hW, World.cell?_alloc_new]; rfl
  have HSN : Hid (graphB xs rs ns = false → Calls _ _ _ W _) := fun h => searched_no W a cap xs b vc rs c cc ns hn hz hrl hnl (hl.below hb0) (hr.below hb0) (hg.below hb0) h
  have HSY : Hid (graphB xs rs ns = true → Calls _ _ _ W _) := fun h => searched_yes W a cap xs b vc rs c cc ns hn hz (hl.below hb0) (hr.below hb0) (hg.below hb0) h
  have HD : Hid (reachS xs rs ns = if graphB xs rs ns = true then reachK (foundG xs rs ns) ns.length else []) := rfl
  have HGF : Hid (graphB xs rs ns = true → ns.length ≤ 400) := fun h => (graph_facts h).2.2.1
  generalize reachS xs rs ns = res at HD ⊢
  clear hW hb0 hl hr hg hn hz hrl hnl
  cases hok : graphB xs rs ns with
  | false =>
    rw [hok] at HD
    have HRS : Hid (res = []) := by show res = []; rw [HD.out]; rfl
    have HS1 := HSN.out hok
    have HS2 : Hid (Calls _ _ _ W _) := HS1
    clear hok HD HSN HSY HGF HS1
    go_enter Try.func15, Try.ntmps15
    go_wp2_with (rw [← HW.out])
    refine HS2.out.mono ?_
    rintro e w2 ⟨rfl, hb2⟩
    obtain ⟨Y, hY⟩ : ∃ Y, Y = w2.alloc (.cells #[.slice none 0 0, .slice none 0 0, .slice none 0 0] 60) := ⟨_, rfl⟩
    obtain ⟨yb, hyb⟩ : ∃ y, y = w2.heap.size := ⟨_, rfl⟩
    have HY : Hid (Y = w2.alloc (.cells #[.slice none 0 0, .slice none 0 0, .slice none 0 0] 60)) := hY
    have HYB : Hid (yb = w2.heap.size) := hyb
    have HBY : Hid (Below w.heap.size w Y) := by show Below _ _ _; rw [hY]; exact (HB0.out.trans (hb2.mono HB0.out.size)).alloc (Nat.le_trans HB0.out.size hb2.size) _
    have y1 : Y.cell? ⟨yb, 1, none⟩ = some (.slice none 0 0) := by rw [hY, hyb, World.cell?_alloc_new]; rfl
    clear hb2 k0 k1 hY hyb
    go_wp2_with fail
    first | (rw [← HY.out, ← HYB.out]) | (rw [← HY.out])
    try rw [← HYB.out]
    go_loopw [7, 19] (fun v i wr => v = .slice none 0 0 ∧ i = .int .i64 0 ∧ wr = Y) (fun _ i _ => 0)
    case atStart => exact ⟨rfl, rfl, rfl⟩
    case round =>
      obtain ⟨rfl, rfl, rfl⟩ := hrel
      go_wp2
      go_ret
      exact lout_none HRS.out rfl HBY.out
  | true =>
    rw [hok] at HD
    have HRS : Hid (res = reachK (foundG xs rs ns) ns.length) := by show res = _; rw [HD.out]; rfl
    have HS1 := HSY.out hok
    have HS2 : Hid (Calls _ _ _ W _) := HS1
    have h400 := HGF.out hok
    clear hok HD HSN HSY HGF HS1
    go_enter Try.func15, Try.ntmps15
    go_wp2_with (rw [← HW.out])
    refine HS2.out.mono ?_
    rintro e w2 ⟨bs, va, sh, FF, sb, vf, a0, c0, a1, c1, rfl, hsr, _, hs1, hva, hb2⟩
    obtain ⟨af, cf, rfl, _⟩ := hsr.shape
    obtain ⟨fl, hfl⟩ : ∃ n, n = (foundG xs rs ns).length := ⟨_, rfl⟩
    rw [← hfl] at hsr ⊢
    obtain ⟨Y, hY⟩ : ∃ Y, Y = w2.alloc (.cells #[.slice a0 rs.length c0, .slice a1 ns.length c1, .slice af fl cf] 60) := ⟨_, rfl⟩
    obtain ⟨yb, hyb⟩ : ∃ y, y = w2.heap.size := ⟨_, rfl⟩
    have HY : Hid (Y = w2.alloc (.cells #[.slice a0 rs.length c0, .slice a1 ns.length c1, .slice af fl cf] 60)) := hY
    have HYB : Hid (yb = w2.heap.size) := hyb
    have hbY : Below w2.heap.size w2 Y := by rw [hY]; exact (Below.refl _ _).alloc (Nat.le_refl _) _
    have HBY : Hid (Below w.heap.size w Y) := HB0.out.trans ((hb2.trans (hbY.mono hb2.size)).mono HB0.out.size)
    have y1 : Y.cell? ⟨yb, 1, none⟩ = some (.slice a1 ns.length c1) := by rw [hY, hyb, World.cell?_alloc_new]; rfl
    have HNOD : Hid (∀ w', Below Y.heap.size Y w' → ∀ k, k < ns.length → ∃ g, a1 = some ⟨g, 0, none⟩ ∧ w'.cell? ⟨g, k, none⟩ = some (ptr (bs.getD k 0)) ∧ w'.cell? ⟨bs.getD k 0, 3, none⟩ = some (.int .i64 (numQ (foundG xs rs ns) (k : Int)))) := fun w' h k hk => by
      have hb9 : Below w2.heap.size w2 w' := hbY.trans (h.mono hbY.size)
      obtain ⟨g, e, _, hF, _, hc⟩ := (hs1.kept ⟨hb9.size, fun i hi _ => hb9.block i (Nat.lt_of_lt_of_le hi hsr.siz)⟩) k (by rw [ones_len]; exact hk)
      rw [ones_at, ptrOf_one] at hc
      exact ⟨g, e, hc, ((hsr.quiet hb9).at' k hk).c3⟩
    generalize foundG xs rs ns = F at HRS HNOD
    clear hb2 k0 k1 hY hyb hbY hsr hs1 hva hfl
    go_wp2_with (first | (rw [← HY.out, ← HYB.out]) | (rw [← HY.out]))
    go_loopw [7, 19] (fun v i wr => ∃ k : Nat, k ≤ ns.length ∧ i = .int .i64 (k : Int) ∧ wr.ownsRow Y.heap.size 2 1 v (reachK F k).length ((reachK F k).map (Value.int .i64)) ∧ Below Y.heap.size Y wr) (fun _ i _ => ns.length - (intOf i).toNat)
    case atStart => exact ⟨0, Nat.zero_le _, rfl, World.ownsRow_nil _ _ _ _, Below.refl _ _⟩
    case round =>
      clear y1 HY HYB
      obtain ⟨k, hk, rfl, hown, hb⟩ := hrel
      have HOW : Hid (wr.ownsRow Y.heap.size 2 1 u7 (reachK F k).length ((reachK F k).map (Value.int .i64))) := hown
      have HB : Hid (Below Y.heap.size Y wr) := hb
      clear hown hb
      by_cases hlt : k < ns.length
      · have hlti : (k : Int) < (ns.length : Int) := by omega
        have hk0 : (0 : Int) ≤ (k : Int) := by omega
        have hk4 : k ≤ 400 := by omega
        have HRK : Hid (reachK F (k + 1) = if (k : Int) ∈ F then reachK F k ++ [(k : Int)] else reachK F k) := rfl
        have HLK : Hid ((reachK F k).length ≤ 1048576) := by have := reachK_len F k; show _ ≤ _; omega
        obtain ⟨ng, rfl, e5, e6⟩ := HNOD.out wr HB.out k hlt
        have hnq := numQ_pos F (k : Int)
        generalize reachK F k = M at HOW HRK HLK
        generalize numQ F (k : Int) = nq at e6 hnq
        generalize bs.getD k 0 = nb at e5 e6
        have e7 : wr.cell? ⟨ng, k, none⟩ = some (.pointer (some ⟨nb, 0, none⟩)) := e5
        clear e5
        by_cases hq : (0 : Int) < nq
        · rw [if_pos (hnq.1 hq)] at HRK
          clear hnq
          go_wp2_with (refine wpList_push wr (by rfl) _ _ (by rfl) Y.heap.size u7 M (k : Int) HOW.out (by rfl) (by rfl) HLK.out HB.out.size ?_; intro g2 c2 w6 hown6 hb6 hB6; have HO6 : Hid (_) := hown6; have HB6 : Hid (Below Y.heap.size Y w6) := HB.out.trans hb6; clear hown6 hb6 hB6)
          go_roundw
          case rel => exact ⟨k + 1, by omega, by go_num, by rw [HRK.out]; exact HO6.out, HB6.out⟩
          case measure => simp [intOf]; omega
        · rw [if_neg (fun h => hq (hnq.2 h))] at HRK
          clear hnq
          go_wp2
          go_roundw
          case rel => exact ⟨k + 1, by omega, by go_num, by rw [HRK.out]; exact HOW.out, HB.out⟩
          case measure => simp [intOf]; omega
      · obtain rfl : k = ns.length := by omega
        obtain ⟨ar, gr, cr, rfl, hgr, hir⟩ := ints_of_row HOW.out
        have HIR : Hid (Ints wr ar gr (reachK F ns.length)) := hir
        have HGR : Hid (w.heap.size ≤ gr) := by have := HBY.out.size; show w.heap.size ≤ gr; omega
        have HBE : Hid (Below w.heap.size w wr) := HBY.out.trans (HB.out.mono HBY.out.size)
        clear hir hgr
        go_wp2
        go_ret
        have hres := HRS.out
        subst hres
        exact ⟨ar, gr, cr, rfl, HGR.out, HIR.out, HBE.out⟩
end Go.Proofs.Ythjfgibflbbgmaa.gs
