/-
  Patched, by the specification.
-/
import Derived.Test.YtjdlphebnhkghaaPtMath
import Derived.Deep.RegionHeld3
namespace Go.Proofs.Ytjdlphebnhkghaa.pt
open Go.RowKit
open wmath num ints ref yw wb bb

set_option maxHeartbeats 2000000 in
set_option maxRecDepth 20000 in
theorem spec_pt (w : World) (s : ByteArray) (a : Option Addr) (cap : Nat) (xs : List Int) (b : Option Addr) (cb : Nat) (fr : List Int) (c : Option Addr) (cc : Nat) (to : List Int) (hs : s.size ≤ 1048576) (hn : xs.length ≤ 1048576) (hfn : fr.length ≤ 1048576) (htn : to.length ≤ 1048576) (hl : Nums w a xs) (hb : Nums w b fr) (hc : Nums w c to) :
    Calls Try.prog 7 #[.string s, .slice a xs.length cap, .slice b fr.length cb, .slice c to.length cc] w fun e w' => e = .returned (.tuple #[.string (ptS s fr to xs), .bool (ptOk s fr to xs)]) ∧ Below w.heap.size w w' := by
  have HA : Hid (∀ w', Below w.heap.size w w' → Nums w' a xs) := fun w' h => hl.below h
  have HFR : Hid (∀ w', Below w.heap.size w w' → Nums w' b fr) := fun w' h => hb.below h
  have HTO : Hid (∀ w', Below w.heap.size w w' → Nums w' c to) := fun w' h => hc.below h
  have HYW : Hid (Calls _ _ _ w _) := spec_young w s a cap xs hs hn hl
  unfold YwAns at HYW
  have HD : Hid (ptOk s fr to xs = (ywOk s xs && fwdOkB fr to)) := rfl
  have HNO : Hid (ptOk s fr to xs = false → ptS s fr to xs = ⟨#[]⟩) := fun h => by show ptS s fr to xs = _; unfold ptS; rw [h, if_neg (by decide)]
  have HYES : Hid (ptOk s fr to xs = true → ptS s fr to xs = ⟨(ptL s fr to xs xs.length).toArray⟩) := fun h => by show ptS s fr to xs = _; unfold ptS; rw [h, if_pos rfl]
  generalize ptS s fr to xs = st at HNO HYES ⊢
  generalize ptOk s fr to xs = ok at HD HNO HYES ⊢
  clear hl hb hc
  cases hyw : ywOk s xs with
  | false =>
    rw [hyw] at HYW HD
    have hok : ok = false := by rw [HD.out]; rfl
    subst hok
    have hst := HNO.out rfl
    subst hst
    clear hyw HD HNO HYES HA HFR HTO
    generalize ywL s xs = q at HYW
    go_enter Try.func7, Try.ntmps7
    go_wp2_with fail
    refine HYW.out.mono ?_
    rintro e w2 ⟨⟨v, rfl, hown, hb1⟩, hb2⟩
    have HB2 : Hid (Below w.heap.size w w2) := hb2
    clear hown hb1 hb2
    go_wp2
    go_ret2
    exact ⟨rfl, HB2.out⟩
  | true =>
  rw [hyw] at HYW HD
  have HBD : Hid (∀ k, k < xs.length → 0 ≤ xs.getD k 0 ∧ 8 * xs.getD k 0 + 8 ≤ (s.size : Int)) := yw_bounds hyw
  have HYL : Hid (ywL s xs = ywK s xs xs.length) := by show ywL s xs = _; unfold ywL; rw [hyw, if_pos rfl]
  have h64 := yw_img hyw
  rw [HYL.out] at HYW
  clear hyw HYL
  by_cases hft : fr.length = to.length
  case neg =>
    have hne : ((fr.length : Int) != (to.length : Int)) = true := by simp; omega
    have hok : ok = false := by rw [HD.out]; unfold fwdOkB; rw [show ((fr.length : Int) == (to.length : Int)) = false by simp; omega]; rfl
    subst hok
    have hst := HNO.out rfl
    subst hst
    generalize fr.length = n1 at hne hft hfn ⊢
    generalize to.length = n2 at hne hft htn ⊢
    clear HD HNO HYES HA HFR HTO hft
    generalize ywK s xs xs.length = q at HYW
    go_enter Try.func7, Try.ntmps7
    go_wp2_with fail
    refine HYW.out.mono ?_
    rintro e w2 ⟨⟨v, rfl, hown, hb1⟩, hb2⟩
    have HB2 : Hid (Below w.heap.size w w2) := hb2
    clear hown hb1 hb2
    go_wp2
    go_ret2
    exact ⟨rfl, HB2.out⟩
  case pos =>
  have hne : ((fr.length : Int) != (to.length : Int)) = false := by simp; omega
  by_cases h400 : to.length ≤ 400
  case neg =>
    have hgt : (400 : Int) < (fr.length : Int) := by omega
    have hok : ok = false := by rw [HD.out]; unfold fwdOkB; rw [decide_eq_false (show ¬ (to.length : Int) ≤ 400 by omega)]; simp
    subst hok
    have hst := HNO.out rfl
    subst hst
    generalize fr.length = n1 at hne hft hfn hgt ⊢
    generalize to.length = n2 at hne hft htn h400 ⊢
    clear HD HNO HYES HA HFR HTO hft h400
    generalize ywK s xs xs.length = q at HYW
    go_enter Try.func7, Try.ntmps7
    go_wp2_with fail
    refine HYW.out.mono ?_
    rintro e w2 ⟨⟨v, rfl, hown, hb1⟩, hb2⟩
    have HB2 : Hid (Below w.heap.size w w2) := hb2
    clear hown hb1 hb2
    go_wp2
    go_ret2
    exact ⟨rfl, HB2.out⟩
  case pos =>
  have hgt : ¬ (400 : Int) < (fr.length : Int) := by omega
  have HR : Hid (ok = allRef to) := by
    show ok = allRef to
    rw [HD.out]; unfold fwdOkB
    rw [show ((fr.length : Int) == (to.length : Int)) = true by simp; omega, decide_eq_true (by omega)]; rfl
  have HFT : Hid (fr.length = to.length) := hft
  have HFN : Hid (fr.length ≤ 1048576) := hfn
  clear HD hft h400
  go_enter Try.func7, Try.ntmps7
  go_wp2_with fail
  refine HYW.out.mono ?_
  rintro e w2 ⟨⟨v, rfl, hown, hb1⟩, hb2⟩
  obtain ⟨av, gv, cv, rfl, hgv, hiv⟩ := ints_of_row hown
  have HB2 : Hid (Below w.heap.size w w2) := hb2
  have HIV : Hid (Ints w2 av gv (ywK s xs xs.length)) := hiv
  have HGV : Hid (0 < (ywK s xs xs.length).length → gv < w2.heap.size) := fun h => hiv.lt h
  clear hown hb1 hb2 hgv hiv
  go_wp2
  clear hne hgt
  go_loopw [12] (fun i wr => ∃ k : Nat, k ≤ to.length ∧ i = .int .i64 (k : Int) ∧ allRef (to.take k) = true ∧ w2 = wr) (fun i _ => to.length - (intOf i).toNat)
  case atStart => exact ⟨0, Nat.zero_le _, rfl, rfl, rfl⟩
  case round =>
    obtain ⟨k, hk, rfl, hok, rfl⟩ := hrel
    have HOK2 : Hid (allRef (to.take k) = true) := hok
    clear hok
    by_cases hlt : k < to.length
    · have hlti : (k : Int) < (to.length : Int) := by omega
      have hk0 : (0 : Int) ≤ (k : Int) := by omega
      obtain ⟨b3, o3, rfl, c1⟩ := HTO.out w2 HB2.out k hlt
      have HTK : Hid (allRef (to.take (k + 1)) = (allRef (to.take k) && decide (0 ≤ refKind to[k]))) := by
        show allRef (to.take (k + 1)) = _
        rw [List.take_succ_eq_append_getElem hlt, allRef_snoc]
      have HNA : Hid (allRef (to.take (k + 1)) = false → allRef to = false) := fun h => by
        unfold allRef at h ⊢
        rw [List.all_eq_false] at h ⊢
        obtain ⟨x, hx, q⟩ := h
        exact ⟨x, List.mem_of_mem_take hx, q⟩
      have HRK : Hid (∀ w, Calls _ _ _ w _) := fun w => specRefKind to[k] w
      generalize to[k] = x at c1 HTK HRK
      generalize refKind x = rk at HTK HRK
      by_cases hneg : rk < 0
      · have hok : ok = false := by rw [HR.out]; exact HNA.out (by rw [HTK.out, decide_eq_false (by omega)]; simp)
        subst hok
        have hst := HNO.out rfl
        subst hst
        go_wp2_with fail
        refine (HRK.out _).mono ?_
        rintro e w4 ⟨rfl, rfl⟩
        go_wp2
        go_ret2
        exact ⟨rfl, HB2.out⟩
      · have HOK3 : Hid (allRef (to.take (k + 1)) = true) := by
          show allRef (to.take (k + 1)) = true
          rw [HTK.out, HOK2.out, decide_eq_true (by omega)]; rfl
        go_wp2_with fail
        refine (HRK.out _).mono ?_
        rintro e w4 ⟨rfl, rfl⟩
        go_wp2
        go_roundw
        case rel => exact ⟨k + 1, by omega, by go_num, HOK3.out, trivial⟩
        case measure => simp [intOf]; omega
    · obtain rfl : k = to.length := by omega
      have hok : ok = true := by
        have := HOK2.out
        rw [List.take_length] at this
        rw [HR.out, this]
      subst hok
      have hst := HYES.out rfl
      have HST : Hid (st = ⟨(ptL s fr to xs xs.length).toArray⟩) := hst
      clear hst HNO HYES HOK2 HR
      have hrt := run_told s w2
      have htb := told_below w2 s
      have hby := told_bytes w2 s
      have hts := told_size w2 s
      have hcp : s.size ≤ capOf w2 s := grownCap_ge _ _ _ _
      generalize told w2 s = X at hrt htb hby hts
      generalize capOf w2 s = cp at hrt hcp
      have HBX : Hid (Below w.heap.size w X) := HB2.out.trans (htb.mono HB2.out.size)
      have HBy : Hid (Bytes X w2.heap.size s.data.toList) := hby
      have HIX : Hid (Ints X av gv (ywK s xs xs.length)) := HIV.out.below htb
      have hgX : w2.heap.size < X.heap.size := by omega
      have HGX : Hid (w2.heap.size < X.heap.size) := hgX
      have HWG : Hid (w.heap.size ≤ w2.heap.size) := HB2.out.size
      clear htb hby hts hgX HIV
      go_wp2
      clear hrt
      go_loopw [14] (fun i wr => ∃ k : Nat, k ≤ xs.length ∧ i = .int .i64 (k : Int) ∧ Bytes wr w2.heap.size (ptL s fr to xs k) ∧ Ints wr av gv (ywK s xs xs.length) ∧ w2.heap.size < wr.heap.size ∧ Below w.heap.size w wr) (fun i _ => xs.length - (intOf i).toNat)
      case atStart => exact ⟨0, Nat.zero_le _, rfl, HBy.out, HIX.out, HGX.out, HBX.out⟩
      case round =>
        obtain ⟨k, hk, rfl, hby, hiv, hgr, hb⟩ := hrel
        have HBr : Hid (Bytes wr w2.heap.size (ptL s fr to xs k)) := hby
        have HIr : Hid (Ints wr av gv (ywK s xs xs.length)) := hiv
        have HB : Hid (Below w.heap.size w wr) := hb
        have HGR : Hid (w2.heap.size < wr.heap.size) := hgr
        clear hby hiv hb hgr
        by_cases hlt : k < xs.length
        · have hlti : (k : Int) < (xs.length : Int) := by omega
          have hk0 : (0 : Int) ≤ (k : Int) := by omega
          obtain ⟨b2, o2, rfl, c0⟩ := HA.out wr HB.out k hlt
          rw [getD_intI xs k hlt] at c0
          have hyl := ywK_len s xs xs.length
          have hlv : (k : Int) < ((ywK s xs xs.length).length : Int) := by omega
          obtain ⟨rfl, d0, _⟩ := HIr.out k (by omega)
          have hyk : (ywK s xs xs.length)[k]'(by omega) = wOf s xs k := ywK_at s xs xs.length k hlt
          rw [hyk] at d0
          have hgne : gv ≠ w2.heap.size := by have := HGV.out (by omega); omega
          have hbl : b2 < w.heap.size := by
            obtain ⟨b', o', e', h'⟩ := HA.out w (Below.refl _ _) k hlt
            cases e'
            exact World.block_lt_of_cell? w _ h'
          have hbne : b2 ≠ w2.heap.size := by have := HWG.out; omega
          have hbr : b2 < wr.heap.size := World.block_lt_of_cell? wr _ c0
          have hgvr : gv < wr.heap.size := World.block_lt_of_cell? wr _ d0
          obtain ⟨hx0, hx1⟩ := HBD.out k hlt
          have HN1 : Hid (ptL s fr to xs (k + 1) = putAt (ptL s fr to xs k) (8 * (xs.getD k 0).toNat) (turned fr to (wOf s xs k)).data.toList) := rfl
          have hll := ptL_len s fr to xs k (fun j hj => by have := HBD.out j (by omega); omega)
          generalize ptL s fr to xs k = cur at HBr HN1 hll
          generalize xs.getD k 0 = x at c0 HN1 hx0 hx1
          obtain ⟨p, rfl⟩ := Int.eq_ofNat_of_zero_le hx0
          rw [Int.toNat_natCast] at HN1
          generalize wOf s xs k = y at d0 HN1
          have HFW : Hid (∀ w', Below w.heap.size w w' → Calls _ _ _ w' _) := fun w' h => spec_fwd w' b c cb cc fr to y HFN.out HFT.out (HFR.out w' h) (HTO.out w' h)
          have HWB : Hid (∀ w, Calls _ _ _ w _) := fun w => spec_word (fwd fr to y) w
          have HTL : Hid ((turned fr to y).data.toList.length = 8) := turned_len fr to y
          have HTE : Hid (turned fr to y = wordStr (IntKind.u64.wrap (fwd fr to y))) := rfl
          generalize turned fr to y = tu at HN1 HTL HTE
          rw [← HTE.out] at HWB
          generalize fwd fr to y = fy at HFW HWB
          clear HTE hyk hx0 hyl
          obtain ⟨A, hA⟩ : ∃ A : Nat, A = 8 * p := ⟨_, rfl⟩
          have hw8 : IntKind.i64.wrap (8 * (p : Int)) = (A : Int) := by rw [IntKind.wrap_i64]; omega
          have HA8 : Hid (A = 8 * p) := hA
          have hAle : A ≤ s.size := by omega
          have hA8 : A + 8 ≤ s.size := by omega
          rw [← hA] at HN1
          have hAi : (A : Int) ≤ (s.size : Int) := by omega
          clear hA hx1
          have HCK : Hid (∀ w', Below wr.heap.size wr w' → w'.cell? ⟨b2, o2 + k, none⟩ = some (.int .i64 (p : Int)) ∧ w'.cell? ⟨gv, k, none⟩ = some (.int .i64 y)) := fun w' h =>
            ⟨by rw [h.cell (p := ⟨b2, o2 + k, none⟩) hbr]; exact c0, by rw [h.cell (p := ⟨gv, k, none⟩) hgvr]; exact d0⟩
          have HCS : Hid (∀ w', Below wr.heap.size wr w' → ∀ o vs, (w'.setCells w2.heap.size o vs).cell? ⟨b2, o2 + k, none⟩ = some (.int .i64 (p : Int)) ∧ (w'.setCells w2.heap.size o vs).cell? ⟨gv, k, none⟩ = some (.int .i64 y)) := fun w' h o vs =>
            ⟨by rw [cell_aside _ _ _ _ _ _ hbne]; exact (HCK.out w' h).1, by rw [cell_aside _ _ _ _ _ _ hgne]; exact (HCK.out w' h).2⟩
          have HCP : Hid (∀ w', Below wr.heap.size wr w' → (Builtin.copy_ #[28, 9] 3 #[.slice (some ⟨w2.heap.size, A, none⟩) (s.size - A) (cp - A), .string tu]).run Try.prog w' = .ok (goInt tu.size) (w'.setCells w2.heap.size A (cellsOfText tu))) := fun w' h =>
            copy_run w' w2.heap.size A (s.size - A) (cp - A) cur tu 3 (HBr.out.below h HGR.out) (by rw [HTL.out]; omega) (by rw [HTL.out]; omega)
          have hacc : Below wr.heap.size wr wr.drew := (Below.refl _ _).drew
          go_wp2_with fail
          go_region_held3 (fun w' => w'.cell? ⟨b2, o2 + k, none⟩ = some (.int .i64 (p : Int)) ∧ w'.cell? ⟨gv, k, none⟩ = some (.int .i64 y))
            (first | with_reducible exact HCK.out _ hacc | with_reducible exact HCS.out _ hacc _ _)
            (first | (go_at_call 29; refine (HFW.out _ (HB.out.trans (hacc.mono HB.out.size))).mono ?_; rintro e w5 ⟨rfl, rfl⟩) | (go_at_call 28; refine (HWB.out _).mono ?_; rintro e w6 ⟨rfl, hb6⟩; have hac2 := hacc.trans (hb6.mono hacc.size); clear hacc hb6; have hacc := hac2; clear hac2; have hcy := HCP.out _ hacc))
          all_goals
            have HF : Hid (Below w.heap.size w w6) := HB.out.trans (hacc.mono HB.out.size)
            have HBF : Hid (Bytes w6 w2.heap.size cur) := HBr.out.below hacc HGR.out
            have HIF : Hid (Ints w6 (some ⟨gv, 0, none⟩) gv (ywK s xs xs.length)) := HIr.out.below hacc
            have HSF : Hid (wr.heap.size ≤ w6.heap.size) := hacc.size
            clear hacc
            go_wp2
            go_roundw
            case rel =>
              refine ⟨k + 1, by omega, by go_num, ?_, ?_, ?_, ?_⟩
              · rw [HN1.out]; exact bytes_splice HBF.out _ _ (by rw [HTL.out]; omega)
              · exact HIF.out.grown2 (grown_cells _ _ _ _) (fun _ => hgne)
              · rw [size_cells]; have := HSF.out; have := HGR.out; omega
              · exact below_cells HF.out HWG.out _ _
            case measure => simp [intOf]; omega
        · obtain rfl : k = xs.length := by omega
          have hll := ptL_len s fr to xs xs.length (fun j hj => by have := HBD.out j hj; omega)
          have htx := HBr.out.text cp
          rw [hll, ← HST.out] at htx
          clear hll
          go_wp2
          go_ret2
          exact ⟨rfl, HB.out⟩
end Go.Proofs.Ytjdlphebnhkghaa.pt
