/-
  What is found in a graph, by the specification.
-/
import Derived.Test.YthjfgibflbbgmaaGsPush
import Derived.Test.YthjfgibflbbgmaaOPut
import Derived.Laws.MakeOwn
import Derived.Deep.Cut
import Derived.Deep.CutRange
import Derived.Deep.DeepCutAuto
import Derived.Deep.RegionHeld3
namespace Go.Proofs.Ythjfgibflbbgmaa.gs
open Go.RowKit
open kinds ints obj ref gr cl

theorem infoBool : (Try.prog.info? 4).map (fun i => (i.zero, i.size, i.bytes)) = some (some (.bool false), 1, 1) := by kernel_rfl
def madeBools (w : World) (n : Nat) : World := w.alloc (.cells (madeCells #[.bool false] (n * 1)) 4)
theorem run_bools (n : Nat) (h : n ≤ 1048576) (w : World) : (Instr.makeSlice 88 (.int .i64 (n : Int)) (.int .i64 (n : Int))).run Try.prog w = .ok (.slice (some ⟨w.heap.size, 0, none⟩) n n) (madeBools w n) := by
  obtain ⟨i, hi, hzz⟩ := Option.map_eq_some_iff.1 infoBool
  simp only [Prod.mk.injEq] at hzz
  obtain ⟨hz, hs, hb⟩ := hzz
  have hr := run_make (P := Try.prog) w 88 4 i _ Try.underlying88 hi hz .i64 .i64 n n (by omega) (Int.le_refl _) (by rw [hb]; omega) (by omega)
  simp only [Int.toNat_natCast, hs] at hr
  exact hr
theorem madeBools_below (w : World) (n : Nat) : Below w.heap.size w (madeBools w n) := (Below.refl _ _).alloc (Nat.le_refl _) _
theorem madeBools_bits (w : World) (n : Nat) : ∀ i, i < n → (madeBools w n).cell? ⟨w.heap.size, i, none⟩ = some (.bool false) ∧ (madeBools w n).frozen? ⟨w.heap.size, i, none⟩ = false := fun i hi => by
  unfold madeBools
  refine ⟨?_, World.frozen?_alloc_new _ _ _ _⟩
  rw [World.cell?_alloc_new]
  simp [madeCells, hi, Nat.mod_one]
theorem graph_facts {xs : List ByteArray} {rs : List Int} {ns : List Nd} (h : graphB xs rs ns = true) : typesOk xs = true ∧ rs.length ≤ 40 ∧ ns.length ≤ 400 ∧ allIn ns.length rs = true ∧ nodesB xs ns.length ns = true := by
  unfold graphB at h
  simp only [Bool.and_eq_true, decide_eq_true_eq] at h
  exact ⟨h.1, h.2.1, h.2.2.1, h.2.2.2.1, h.2.2.2.2⟩
theorem allIn_at {n : Nat} {l : List Int} (h : allIn n l = true) {k : Nat} (hk : k < l.length) : 0 ≤ l[k] ∧ l[k] ≤ (n : Int) := by
  unfold allIn at h
  have := List.all_eq_true.1 h _ (List.getElem_mem hk)
  simp only [Bool.and_eq_true, decide_eq_true_eq] at this
  exact this
theorem nodes_later {W : World} {c : Option Addr} {ns : List Nd} (h : Nodes W c ns) (i : Nat) (hi : i < ns.length) : ∃ (b2 off : Nat) (ai : Option Addr) (ci : Nat), c = some ⟨b2, off, none⟩ ∧ ∀ w', Below W.heap.size W w' → w'.cell? ⟨b2, off + i * 2, none⟩ = some (.int .i64 ns[i].1) ∧ w'.cell? ⟨b2, off + i * 2 + 1, none⟩ = some (.slice ai ns[i].2.length ci) ∧ Nums w' ai ns[i].2 := by
  obtain ⟨b2, off, e, h0, ai, ci, h1, h2⟩ := h i hi
  exact ⟨b2, off, ai, ci, e, fun w' hb => ⟨by rw [hb.cell (p := ⟨b2, off + i * 2, none⟩) (World.block_lt_of_cell? W _ h0)]; exact h0, by rw [hb.cell (p := ⟨b2, off + i * 2 + 1, none⟩) (World.block_lt_of_cell? W _ h1)]; exact h1, h2.below hb⟩⟩
theorem refs_at {s : ByteArray} {vs : List Int} {n j : Nat} (h : allIn n (refsL s vs vs.length) = true) (hj : j < vs.length) (hr : isR s j = true) : 0 ≤ vs.getD j 0 ∧ vs.getD j 0 ≤ (n : Int) := by
  have hm : ∀ m, m ≤ vs.length → j < m → vs.getD j 0 ∈ refsL s vs m := by
    intro m
    induction m with
    | zero => intro _ h; omega
    | succ m ih =>
      intro hm hjm
      rw [refsL]
      by_cases e : j = m
      · subst e
        rw [if_pos hr]
        exact List.mem_append_right _ (by simp)
      · have h1 := ih (by omega) (by omega)
        split
        · exact List.mem_append_left _ h1
        · exact h1
  unfold allIn at h
  have := List.all_eq_true.1 h _ (hm vs.length (Nat.le_refl _) hj)
  simp only [Bool.and_eq_true, decide_eq_true_eq] at this
  exact this
theorem refsL_sub (s : ByteArray) (vs : List Int) (j n : Nat) (h : j ≤ n) : ∀ y ∈ refsL s vs j, y ∈ refsL s vs n := by
  induction n with
  | zero => rw [show j = 0 by omega]; exact fun y hy => hy
  | succ n ih =>
    by_cases e : j = n + 1
    · rw [e]; exact fun y hy => hy
    · intro y hy
      rw [refsL]
      split
      · exact List.mem_append_left _ (ih (by omega) y hy)
      · exact ih (by omega) y hy
theorem pl_sub {l m : List Int} (h : ∀ y ∈ l, y ∈ m) : ∀ y ∈ pl l, y ∈ pl m := fun y hy => by
  obtain ⟨h1, h2⟩ := pl_mem hy
  unfold pl
  exact List.mem_map.2 ⟨y + 1, List.mem_filter.2 ⟨h _ h1, by simp; omega⟩, by omega⟩
theorem find_refs (Q : List Int) (s : ByteArray) (vs : List Int) (j : Nat) : findN Q (pl (refsL s vs (j + 1))) = if isR s j = true then (if 0 < vs.getD j 0 then pushN (findN Q (pl (refsL s vs j))) (vs.getD j 0 - 1) else findN Q (pl (refsL s vs j))) else findN Q (pl (refsL s vs j)) := by
  rw [refsL]
  split
  · rw [pl_snoc]
    split
    · rw [findN_snoc]
    · rfl
  · rfl
theorem ob_kept {w w6 : World} {S m OB o : Nat} {x y v : Value} (hc : w.cell? ⟨OB, o, none⟩ = some y) (hg : (w.setCell ⟨S, m, none⟩ x).grownBy w6 v.ownBlock) (hS : OB ≠ S) (hv : ∀ r, v.ownBlock = some r → r ≠ OB) : w6.cell? ⟨OB, o, none⟩ = some y := by
  have hl := World.block_lt_of_cell? w _ hc
  rw [World.cell?_of_block (a := ⟨OB, o, none⟩) (hg.block OB (by simpa using hl) (fun q => hv OB q.symm rfl)), World.cell?_setCell_other _ _ _ _ (fun q => hS (by simpa using (congrArg Addr.block q).symm))]
  exact hc
theorem ne_of_le {g X w O : Nat} (h : X ≤ g) (hX : X = w) (hO : O < w) : g ≠ O := by omega
set_option maxHeartbeats 4000000 in
set_option maxRecDepth 20000 in
theorem spec_found (w : World) (a : Option Addr) (cap : Nat) (xs : List ByteArray) (b : Option Addr) (vc : Nat) (rs : List Int) (c : Option Addr) (cc : Nat) (ns : List Nd) (hok : graphB xs rs ns = true) (hl : Strs w a xs) (hr : Nums w b rs) (hg : Nodes w c ns) :
    Calls Try.prog 39 #[.slice a xs.length cap, .agg #[.slice b rs.length vc, .slice c ns.length cc]] w fun e w' => ∃ a2 g k, e = .returned (.slice a2 (foundG xs rs ns).length k) ∧ w.heap.size ≤ g ∧ Ints w' a2 g (foundG xs rs ns) ∧ Below w.heap.size w w' := by
  obtain ⟨htp, h40, h400, hin, hnd⟩ := graph_facts hok
  obtain ⟨W, hW⟩ : ∃ W, W = w.alloc (.cells #[.slice b rs.length vc, .slice c ns.length cc] 33) := ⟨_, rfl⟩
  have HW : Hid (W = w.alloc (.cells #[.slice b rs.length vc, .slice c ns.length cc] 33)) := hW
  have hb0 : Below w.heap.size w W := by rw [hW]; exact (Below.refl _ _).alloc (Nat.le_refl _) _
  have HB0 : Hid (Below w.heap.size w W) := hb0
  have hsz : w.heap.size < W.heap.size := by rw [hW]; simp
  have k0 : W.cell? ⟨w.heap.size, 0, none⟩ = some (.slice b rs.length vc) := by rw [hW, World.cell?_alloc_new]; rfl
  have k1 : W.cell? ⟨w.heap.size, 1, none⟩ = some (.slice c ns.length cc) := by rw [hW, World.cell?_alloc_new]; rfl
  have HCS : Hid (∀ w', Below W.heap.size W w' → w'.cell? ⟨w.heap.size, 0, none⟩ = some (.slice b rs.length vc) ∧ w'.cell? ⟨w.heap.size, 1, none⟩ = some (.slice c ns.length cc)) := fun w' h =>
    ⟨by rw [h.cell (p := ⟨w.heap.size, 0, none⟩) hsz]; exact k0, by rw [h.cell (p := ⟨w.heap.size, 1, none⟩) hsz]; exact k1⟩
  have HSN : Hid (∀ w', Below W.heap.size W w' → Strs w' a xs) := fun w' h => (hl.below hb0).below h
  have HRN : Hid (∀ w', Below W.heap.size W w' → Nums w' b rs) := fun w' h => (hr.below hb0).below h
  have HND : Hid (∀ i (hi : i < ns.length), _) := fun i hi => nodes_later (hg.below hb0) i hi
  have HNF : Hid (∀ i (hi : i < ns.length), _) := fun i hi => node_fits htp hnd hi
  have HNR : Hid (∀ i (hi : i < ns.length), allIn ns.length (nmA xs ns[i]) = true) := fun i hi => node_refs hnd hi
  have HIN : Hid (allIn ns.length rs = true) := hin
  have HGG : Hid (∀ r, GoodG ns.length r → ∀ y ∈ nmG xs ns r, GoodG ns.length y) := fun r q => nmG_good hnd q
  have HWK : Hid (Wk (GoodG ns.length) (nmG xs ns) ns.length (foundG xs rs ns) 0 (findN [] (pl rs))) := Wk.start (pl_good hin)
  obtain ⟨R, hR⟩ : ∃ R, R = foundG xs rs ns := ⟨_, rfl⟩
  rw [← hR] at HWK ⊢
  obtain ⟨X0, hX0⟩ : ∃ X, X = W.alloc (.cells #[] 2) := ⟨_, rfl⟩
  have HX0 : Hid (X0 = W.alloc (.cells #[] 2)) := hX0
  have hbX0 : Below W.heap.size W X0 := by rw [hX0]; exact (Below.refl _ _).alloc (Nat.le_refl _) _
  have hr0 : X0.ownsRow W.heap.size 2 1 (.slice (some ⟨W.heap.size, 0, none⟩) 0 0) 0 [] := ⟨rfl, .inr ⟨W.heap.size, 0, #[], rfl, Nat.le_refl _, by rw [hX0]; exact heap_alloc_last W _, Nat.le_refl _, Nat.zero_le _, rfl, rfl⟩⟩
  have hX0s : X0.heap.size = W.heap.size + 1 := by rw [hX0]; simp
  have hmk := run_bools ns.length (by omega) X0
  have hbb := madeBools_below X0 ns.length
  have hbt := madeBools_bits X0 ns.length
  obtain ⟨S, hS⟩ : ∃ S, S = X0.heap.size := ⟨_, rfl⟩
  generalize madeBools X0 ns.length = X1 at hmk hbb hbt
  have HS0 : Hid (Sn W S ns.length (.slice (some ⟨W.heap.size, 0, none⟩) 0 0) (findN [] (pl (rs.take 0))) X1) := by
    refine ⟨row_kept hr0 (grown_below none hbb) (fun _ _ _ q => by cases q), fun i hi => ?_, fun r q => ?_, by omega, hbX0.trans (hbb.mono (by omega))⟩
    · obtain ⟨q0, q1⟩ := hbt i hi
      rw [hS]
      exact ⟨by rw [q0]; rfl, q1⟩
    · have q2 : some W.heap.size = some r := q
      injection q2 with q3
      omega
  rw [← hS] at hmk
  clear k0 k1
  have k1 := (HCS.out X0 hbX0).2
  clear hW hl hr hg hb0 hsz hok htp hin hnd hR hX0 hbX0 hr0 hX0s hbb hbt hS
  go_enter Try.func39, Try.ntmps39
  go_wp2_with (first | (rw [← HW.out]) | (rw [← HX0.out]))
  clear hmk k1
  go_loopw [5, 7] (fun v i wr => ∃ k : Nat, k ≤ rs.length ∧ i = .int .i64 (k : Int) ∧ Sn W S ns.length v (findN [] (pl (rs.take k))) wr) (fun _ i _ => rs.length - (intOf i).toNat)
  case atStart => exact ⟨0, Nat.zero_le _, rfl, HS0.out⟩
  case round =>
    clear HS0 HX0 HW
    obtain ⟨k, hk, rfl, hsn⟩ := hrel
    have HSQ : Hid (Sn W S ns.length u5 (findN [] (pl (rs.take k))) wr) := hsn
    have HB : Hid (Below W.heap.size W wr) := hsn.bel
    clear hsn
    obtain ⟨m0, m1⟩ := HCS.out wr HB.out
    by_cases hlt : k < rs.length
    · have hlti : (k : Int) < (rs.length : Int) := by omega
      have hk0 : (0 : Int) ≤ (k : Int) := by omega
      have hk4 : k ≤ 40 := by omega
      obtain ⟨b5, o5, rfl, e5⟩ := HRN.out wr HB.out k hlt
      have HTK := find_pl [] rs k hlt
      have HTK : Hid (_ = _) := HTK
      obtain ⟨hx0, hxn⟩ := allIn_at HIN.out hlt
      have HQL : Hid ((findN [] (pl (rs.take k))).length ≤ 1048576) := by
        have h1 := good_len (n := ns.length) (findN_nodup (xs := pl (rs.take k)) List.nodup_nil) (findN_sub (fun _ h => by cases h) (fun r hr => pl_good HIN.out r (pl_sub (fun y hy => List.mem_of_mem_take hy) r hr)))
        show _ ≤ _
        omega
      generalize findN [] (pl (rs.take k)) = Q at HSQ HTK HQL
      generalize rs[k] = x at e5 HTK hx0 hxn
      by_cases hx : 0 < x
      · obtain ⟨m, rfl⟩ : ∃ m : Nat, x = (m : Int) + 1 := ⟨(x - 1).toNat, by omega⟩
        have hmn : m < ns.length := by omega
        have hmi : (m : Int) < (ns.length : Int) := by omega
        have hm0 : (0 : Int) ≤ (m : Int) := by omega
        have hm4 : m ≤ 400 := by omega
        rw [if_pos hx, show (m : Int) + 1 - 1 = (m : Int) by omega] at HTK
        obtain ⟨d0, f0⟩ := HSQ.out.bits m hmn
        have HMN : Hid (m < ns.length) := hmn
        clear hx hx0 hxn
        by_cases hq : (m : Int) ∈ Q
        · rw [decide_eq_true hq] at d0
          rw [pushN_in hq] at HTK
          clear hq hmn
          go_wp2
          go_roundw
          case rel => exact ⟨k + 1, by omega, by go_num, by rw [HTK.out]; exact HSQ.out⟩
          case measure => simp [intOf]; omega
        · rw [decide_eq_false hq] at d0
          rw [pushN_out hq] at HTK
          obtain ⟨hrw, hsz⟩ := HSQ.out.mark m (.bool true)
          obtain ⟨X, hX⟩ : ∃ X, X = wr.setCell ⟨S, m, none⟩ (.bool true) := ⟨_, rfl⟩
          have HX : Hid (X = wr.setCell ⟨S, m, none⟩ (.bool true)) := hX
          rw [← hX] at hrw hsz
          have HRW : Hid (X.ownsRow _ _ _ _ _ _) := hrw
          have HSZ : Hid (W.heap.size ≤ X.heap.size) := hsz
          have HXW : Hid (X.heap.size = wr.heap.size) := by show _ = _; rw [hX]; simp
          clear hq hmn hrw hsz hX
          go_wp2_with (first | (rw [← HX.out]) | (refine wpList_pushG X (by rfl) _ _ (by rfl) W.heap.size u5 Q (m : Int) HRW.out (by rfl) (by rfl) HQL.out HSZ.out ?_; intro g2 c2 w6 hown6 hg6 hb6 hat6; have HS6 : Hid (Sn W S ns.length _ (Q ++ [(m : Int)]) w6) := HSQ.out.pushed m HMN.out hown6 (HX.out ▸ hg6) (fun g q => (by have q2 := Option.some.inj (q : some g2 = some g); subst q2; rw [← HXW.out]; exact hat6)); clear hown6 hg6 hb6 hat6))
          go_roundw
          case rel => exact ⟨k + 1, by omega, by go_num, by rw [HTK.out]; exact HS6.out⟩
          case measure => simp [intOf]; omega
      · obtain rfl : x = 0 := by omega
        rw [if_neg (by omega)] at HTK
        clear hx hx0 hxn
        go_wp2
        go_roundw
        case rel => exact ⟨k + 1, by omega, by go_num, by rw [HTK.out]; exact HSQ.out⟩
        case measure => simp [intOf]; omega
    · obtain rfl : k = rs.length := by omega
      rw [List.take_length] at HSQ
      clear HRN
      go_wp2
      go_loopw [5, 9] (fun v i wr => ∃ (k : Nat) (Q : List Int), k ≤ Q.length ∧ i = .int .i64 (k : Int) ∧ Wk (GoodG ns.length) (nmG xs ns) ns.length R k Q ∧ Sn W S ns.length v Q wr) (fun _ i _ => ns.length - (intOf i).toNat)
      case atStart => exact ⟨0, _, Nat.zero_le _, rfl, HWK.out, HSQ.out⟩
      case round =>
        clear HSQ HB HWK m0 m1 hlt hk
        obtain ⟨k, Q, hk, rfl, hwk, hsn⟩ := hrel
        have HSQ : Hid (Sn W S ns.length u5 Q wr) := hsn
        have HB : Hid (Below W.heap.size W wr) := hsn.bel
        have HWK : Hid (Wk (GoodG ns.length) (nmG xs ns) ns.length R k Q) := hwk
        have hql := good_len hwk.nd hwk.good
        have HQL : Hid (Q.length ≤ ns.length) := hql
        clear hsn hwk
        obtain ⟨m0, m1⟩ := HCS.out wr HB.out
        obtain ⟨aq, gq, cq, rfl, hgq, hiq⟩ := ints_of_row HSQ.out.row
        by_cases hlt : k < Q.length
        · have hlti : (k : Int) < (Q.length : Int) := by omega
          have hk0 : (0 : Int) ≤ (k : Int) := by omega
          have hk4 : k ≤ 400 := by omega
          have hgr := HWK.out.good _ (List.getElem_mem hlt)
          have HNX : Hid (Wk (GoodG ns.length) (nmG xs ns) ns.length R (k + 1) (findN Q (nmG xs ns Q[k]))) := HWK.out.step hlt hql HGG.out
          have hng : ∀ l, (∀ y ∈ l, y ∈ nmG xs ns Q[k]) → (findN Q l).length ≤ ns.length := fun l hl => good_len (findN_nodup HWK.out.nd) (findN_sub HWK.out.good (fun y hy => HGG.out _ hgr y (hl y hy)))
          obtain ⟨rfl, e5, _⟩ := hiq k hlt
          have hgql : gq < wr.heap.size := World.block_lt_of_cell? wr _ e5
          generalize Q[k] = p at e5 HNX hgr hng
          obtain ⟨p0, pn⟩ := hgr
          obtain ⟨i, rfl⟩ := Int.eq_ofNat_of_zero_le p0
          have hin : i < ns.length := by omega
          have hii : (i : Int) < (ns.length : Int) := pn
          obtain ⟨b2, off, ai, ci, rfl, hnd⟩ := HND.out i hin
          have HNC : Hid (∀ w', Below W.heap.size W w' → _) := hnd
          obtain ⟨q, hq1, hql2, hkd, hvl, h23, h1, hty⟩ := HNF.out i hin
          have hra := HNR.out i hin
          unfold nmA at hra
          rw [hkd] at hra
          have hnm : nmG xs ns (i : Int) = pl (refsL xs[q] ns[i].2 ns[i].2.length) := by
            unfold nmG nmA
            rw [Int.toNat_natCast, nd_at hin, hkd]
          rw [hnm] at HNX hng
          have HSC : Hid (∀ w', Below W.heap.size W w' → ∃ b o, a = some ⟨b, o, none⟩ ∧ w'.cell? ⟨b, o + q, none⟩ = some (.string xs[q])) := fun w' h => HSN.out w' h q hql2
          generalize ns[i] = nd at HNC hq1 hvl h23 h1 hra HNX hng
          obtain ⟨t, vs⟩ := nd
          have hq2 : t = (q : Int) := hq1
          subst hq2
          replace HNC : Hid (∀ w', Below W.heap.size W w' → w'.cell? ⟨b2, off + i * 2, none⟩ = some (.int .i64 (q : Int)) ∧ w'.cell? ⟨b2, off + i * 2 + 1, none⟩ = some (.slice ai vs.length ci) ∧ Nums w' ai vs) := HNC
          have HVS : Hid (vs.length = xs[q].size) := hvl
          have h23 : vs.length ≤ 23 := h23
          clear hvl
          have HRA : Hid (allIn ns.length (refsL xs[q] vs vs.length) = true) := hra
          replace HNX : Hid (Wk (GoodG ns.length) (nmG xs ns) ns.length R (k + 1) (findN Q (pl (refsL xs[q] vs vs.length)))) := HNX
          have hqi : (q : Int) < (xs.length : Int) := by omega
          have hq0 : (0 : Int) ≤ (q : Int) := by omega
          have HNG : Hid (∀ j, j ≤ vs.length → (findN Q (pl (refsL xs[q] vs j))).length ≤ 1048576) := fun j hj => by
            have := hng _ (pl_sub (refsL_sub xs[q] vs j vs.length hj))
            omega
          generalize xs[q] = s at HSC HRA HNX HNG HVS
          clear hty hq1 hql2 hkd h1 hra hnm hng hnd hiq hgq p0 pn hql
          have HSZ : Hid (S < wr.heap.size) := World.block_lt_of_cell? wr _ (HSQ.out.bits i hin).1
          have HCU : Hid (∀ w', Below wr.heap.size wr w' → Below W.heap.size W w') := fun w' h => HB.out.trans (h.mono HB.out.size)
          have HCK : Hid (∀ w', Below wr.heap.size wr w' → w'.cell? ⟨w.heap.size, 1, none⟩ = some (.slice (some ⟨b2, off, none⟩) ns.length cc) ∧ w'.cell? ⟨gq, k, none⟩ = some (.int .i64 (i : Int)) ∧ w'.cell? ⟨b2, off + i * 2, none⟩ = some (.int .i64 (q : Int)) ∧ w'.cell? ⟨b2, off + i * 2 + 1, none⟩ = some (.slice ai vs.length ci)) := fun w' h =>
            ⟨(HCS.out _ (HCU.out _ h)).2, by rw [h.cell (p := ⟨gq, k, none⟩) hgql]; exact e5, (HNC.out _ (HCU.out _ h)).1, (HNC.out _ (HCU.out _ h)).2.1⟩
          have hacc : Below wr.heap.size wr wr.drew := (Below.refl _ _).drew
          have HPS : Hid (Pair wr (wr.alloc (.cells #[.int .i64 0, .slice none 0 0] 53))) := Pair.start wr _
          obtain ⟨_, _, d0, d1⟩ := HCK.out wr (Below.refl _ _)
          go_upto_region 13 with fail
          go_cut [10] (fun pv wx => ∃ B : Nat, pv = .pointer (some ⟨B, 0, none⟩) ∧ wr.heap.size ≤ B ∧ wx.cell? ⟨B, 0, none⟩ = some (.int .i64 (q : Int)) ∧ wx.cell? ⟨B, 1, none⟩ = some (.slice ai vs.length ci) ∧ Below wr.heap.size wr wx)
          case first =>
            go_region_held3 (fun w' => w'.cell? ⟨w.heap.size, 1, none⟩ = some (.slice (some ⟨b2, off, none⟩) ns.length cc) ∧ w'.cell? ⟨gq, k, none⟩ = some (.int .i64 (i : Int)) ∧ w'.cell? ⟨b2, off + i * 2, none⟩ = some (.int .i64 (q : Int)) ∧ w'.cell? ⟨b2, off + i * 2 + 1, none⟩ = some (.slice ai vs.length ci)) (first | with_reducible exact HCK.out _ hacc | with_reducible exact HCK.out _ (hacc.alloc hacc.size _) | with_reducible exact HCK.out _ ((Below.refl _ _).alloc (Nat.le_refl _) _).drew)
              (first | fail)
            all_goals
              go_wp2_with fail
              go_meet
              first
                | exact ⟨_, rfl, Nat.le_refl _, by show (wr.alloc _).cell? _ = _; rw [World.cell?_alloc_new]; rfl, by show (wr.alloc _).cell? _ = _; rw [World.cell?_alloc_new]; rfl, ((Below.refl _ _).alloc (Nat.le_refl _) _).drew⟩
          case rest =>
            obtain ⟨OB, rfl, hOB, y0, y1, hU⟩ := hcut
            have HSJ : Hid (Sn W S ns.length (.slice (some ⟨gq, 0, none⟩) Q.length cq) (findN Q (pl (refsL s vs 0))) wc) := HSQ.out.quiet hU
            have HNE : Hid (∀ r, Value.ownBlock (.slice (some ⟨gq, 0, none⟩) Q.length cq) = some r → r ≠ OB) := fun r q => by
              have q2 : some gq = some r := q
              injection q2 with q3
              omega
            have HOS : Hid (OB ≠ S) := by have := HSZ.out; show OB ≠ S; omega
            have HKN : Hid (k < Q.length) := hlt
            have Y0 : Hid (wc.cell? ⟨OB, 0, none⟩ = some (.int .i64 (q : Int))) := y0
            have Y1 : Hid (wc.cell? ⟨OB, 1, none⟩ = some (.slice ai vs.length ci)) := y1
            clear hU hOB hacc e5 hgql HPS HCK HCU HSQ HSZ d0 d1 m0 m1 hii hin hlt hk
            go_wp2
            clear y0 y1
            go_loopw [5, 11] (fun v i w2 => ∃ j : Nat, j ≤ vs.length ∧ i = .int .i64 (j : Int) ∧ Sn W S ns.length v (findN Q (pl (refsL s vs j))) w2 ∧ (∀ r, v.ownBlock = some r → r ≠ OB) ∧ w2.cell? ⟨OB, 0, none⟩ = some (.int .i64 (q : Int)) ∧ w2.cell? ⟨OB, 1, none⟩ = some (.slice ai vs.length ci)) (fun _ i _ => vs.length - (intOf i).toNat)
            case atStart => exact ⟨0, Nat.zero_le _, rfl, HSJ.out, HNE.out, Y0.out, Y1.out⟩
            case round =>
              clear HSJ HNE Y0 Y1
              obtain ⟨j, hj, rfl, hsj, hne, y0, y1⟩ := hrel
              have HSJ : Hid (Sn W S ns.length u5 (findN Q (pl (refsL s vs j))) wr) := hsj
              have HBJ : Hid (Below W.heap.size W wr) := hsj.bel
              have HNE : Hid (∀ r, u5.ownBlock = some r → r ≠ OB) := hne
              have HY : Hid (wr.cell? ⟨OB, 0, none⟩ = some (.int .i64 (q : Int)) ∧ wr.cell? ⟨OB, 1, none⟩ = some (.slice ai vs.length ci)) := ⟨y0, y1⟩
              clear hsj hne
              by_cases hlt2 : j < vs.length
              · have HJ : Hid (j < vs.length) := hlt2
                have hjmi : (j : Int) < (vs.length : Int) := by omega
                have hj0 : (0 : Int) ≤ (j : Int) := by omega
                have hj23 : j < 23 := by omega
                have hjs : j < s.size := by have := HVS.out; omega
                have hjsi : (j : Int) < (s.size : Int) := by omega
                have hIR := isR_at s j hjs
                obtain ⟨b6, o6, rfl, f1⟩ := (HNC.out wr HBJ.out).2.2 j hlt2
                rw [getD_intI vs j hlt2] at f1
                obtain ⟨b7, o7, rfl, s1⟩ := HSC.out wr HBJ.out
                have HRS := find_refs Q s vs j
                have HTK : Hid (_ = _) := HRS
                have HQJ : Hid ((findN Q (pl (refsL s vs j))).length ≤ 1048576) := HNG.out j (by omega)
                have HXB : Hid (isR s j = true → 0 ≤ vs.getD j 0 ∧ vs.getD j 0 ≤ (ns.length : Int)) := fun h => refs_at HRA.out hlt2 h
                clear HRS
                generalize vs.getD j 0 = x at f1 HTK HXB
                generalize findN Q (pl (refsL s vs j)) = P at HSJ HTK HQJ
                cases hr : isR s j with
                | false =>
                  rw [hr] at hIR HTK
                  rw [if_neg (by decide)] at HTK
                  have hIN : ((s[j].toNat : Int) != 114) = true := by rw [bne, hIR]; rfl
                  clear hr HXB
                  go_wp2
                  go_roundw
                  case rel => exact ⟨j + 1, by have := HJ.out; omega, by go_num, by rw [HTK.out]; exact HSJ.out, HNE.out, HY.out.1, HY.out.2⟩
                  case measure => have := HJ.out; simp [intOf]; omega
                | true =>
                  rw [hr] at hIR HTK HXB
                  rw [if_pos rfl] at HTK
                  have hIN : ((s[j].toNat : Int) != 114) = false := by rw [bne, hIR]; rfl
                  obtain ⟨hx0, hxn⟩ := HXB.out rfl
                  clear hr HXB
                  by_cases hx : 0 < x
                  · obtain ⟨m, rfl⟩ : ∃ m : Nat, x = (m : Int) + 1 := ⟨(x - 1).toNat, by omega⟩
                    have hmn : m < ns.length := by omega
                    have hmi : (m : Int) < (ns.length : Int) := by omega
                    have hm0 : (0 : Int) ≤ (m : Int) := by omega
                    have hm4 : m ≤ 400 := by omega
                    rw [if_pos hx, show (m : Int) + 1 - 1 = (m : Int) by omega] at HTK
                    obtain ⟨d0, f0⟩ := HSJ.out.bits m hmn
                    have HMN : Hid (m < ns.length) := hmn
                    clear hx hx0 hxn
                    by_cases hq : (m : Int) ∈ P
                    · rw [decide_eq_true hq] at d0
                      rw [pushN_in hq] at HTK
                      clear hq hmn
                      go_wp2
                      go_roundw
                      case rel => exact ⟨j + 1, by have := HJ.out; omega, by go_num, by rw [HTK.out]; exact HSJ.out, HNE.out, HY.out.1, HY.out.2⟩
                      case measure => have := HJ.out; simp [intOf]; omega
                    · rw [decide_eq_false hq] at d0
                      rw [pushN_out hq] at HTK
                      obtain ⟨hrw, hsz⟩ := HSJ.out.mark m (.bool true)
                      obtain ⟨X, hX⟩ : ∃ X, X = wr.setCell ⟨S, m, none⟩ (.bool true) := ⟨_, rfl⟩
                      have HX : Hid (X = wr.setCell ⟨S, m, none⟩ (.bool true)) := hX
                      rw [← hX] at hrw hsz
                      have HRW : Hid (X.ownsRow _ _ _ _ _ _) := hrw
                      have HSZ : Hid (W.heap.size ≤ X.heap.size) := hsz
                      have HXW : Hid (X.heap.size = wr.heap.size) := by show _ = _; rw [hX]; simp
                      have HOL : Hid (OB < wr.heap.size) := World.block_lt_of_cell? wr _ y0
                      clear hq hmn hrw hsz hX
                      go_wp2_with (first | (rw [← HX.out]) | (refine wpList_pushG X (by rfl) _ _ (by rfl) W.heap.size u5 P (m : Int) HRW.out (by rfl) (by rfl) HQJ.out HSZ.out ?_; intro g2 c2 w6 hown6 hg6 hb6 hat6; have hgq6 := HX.out ▸ hg6; have HS6 : Hid (Sn W S ns.length _ (P ++ [(m : Int)]) w6) := HSJ.out.pushed m HMN.out hown6 hgq6 (fun g q => (by have q2 := Option.some.inj (q : some g2 = some g); subst q2; rw [← HXW.out]; exact hat6)); have HY6 : Hid (w6.cell? ⟨OB, 0, none⟩ = some _ ∧ w6.cell? ⟨OB, 1, none⟩ = some _) := ⟨ob_kept HY.out.1 hgq6 HOS.out HNE.out, ob_kept HY.out.2 hgq6 HOS.out HNE.out⟩; have HN6 : Hid (∀ r, some g2 = some r → r ≠ OB) := fun r q => Option.some.inj q ▸ hat6.elim (fun q3 => HNE.out _ q3) (fun q3 => ne_of_le q3 HXW.out HOL.out); clear hown6 hg6 hb6 hat6 hgq6))
                      go_roundw
                      case rel => exact ⟨j + 1, by have := HJ.out; omega, by go_num, by rw [HTK.out]; exact HS6.out, HN6.out, HY6.out.1, HY6.out.2⟩
                      case measure => have := HJ.out; simp [intOf]; omega
                  · obtain rfl : x = 0 := by omega
                    rw [if_neg (by omega)] at HTK
                    clear hx hx0 hxn
                    go_wp2
                    go_roundw
                    case rel => exact ⟨j + 1, by have := HJ.out; omega, by go_num, by rw [HTK.out]; exact HSJ.out, HNE.out, HY.out.1, HY.out.2⟩
                    case measure => have := HJ.out; simp [intOf]; omega
              · obtain rfl : j = vs.length := by omega
                have HLE : Hid (k + 1 ≤ (findN Q (pl (refsL s vs vs.length))).length) := by
                  have h1 := findN_len (pl (refsL s vs vs.length)) Q
                  have h2 := HKN.out
                  show k + 1 ≤ _
                  omega
                go_wp2
                go_roundw
                case rel => exact ⟨k + 1, _, HLE.out, by go_num, HNX.out, HSJ.out⟩
                case measure => have := HKN.out; have := HQL.out; simp [intOf]; omega
        · have hQR : Q = R := HWK.out.stop (by omega)
          subst hQR
          have HIQ : Hid (Ints wr aq gq Q) := hiq
          have HGQ : Hid (w.heap.size ≤ gq) := Nat.le_trans HB0.out.size hgq
          have HBE : Hid (Below w.heap.size w wr) := HB0.out.trans (HB.out.mono HB0.out.size)
          have hkq : k = Q.length := by omega
          clear hiq hgq hql hlt
          go_wp2
          go_ret
          exact ⟨aq, gq, cq, rfl, HGQ.out, HIQ.out, HBE.out⟩
end Go.Proofs.Ythjfgibflbbgmaa.gs
