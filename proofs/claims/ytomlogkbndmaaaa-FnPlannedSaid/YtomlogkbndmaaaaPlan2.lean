/-
  Planned, by the specification, whatever comes in.
-/
import Derived.Test.YtomlogkbndmaaaaPlan1
namespace Go.Proofs.Ytomlogkbndmaaaa.pl
open Go.RowKit lb kinds obj img later

set_option maxHeartbeats 2000000 in
set_option maxRecDepth 20000 in
theorem spec_plan (w : World) (n1 n2 n3 : Int) (a : Option Addr) (cap : Nat) (xs : List ByteArray) (m : ByteArray) (b : Option Addr) (cb : Nat) (ts : List Int) (hn : xs.length ≤ 1048576) (hl : Strs w a xs) (hz : ∀ i (hi : i < xs.length), xs[i].size ≤ 1048576) (ht : ts.length ≤ 1048576) (hk : ints.Nums w b ts) :
    Calls Try.prog 10 #[.agg #[.int .i64 n1, .int .i64 n2, .int .i64 n3, .slice a xs.length cap], .string m, .slice b ts.length cb] w fun e w' => PlAns n1 n2 n3 xs m ts w e w' ∧ Below w.heap.size w w' := by
  obtain ⟨W, hW⟩ : ∃ W, W = w.alloc (.cells #[.int .i64 n1, .int .i64 n2, .int .i64 n3, .slice a xs.length cap] 26) := ⟨_, rfl⟩
  have hb0 : Below w.heap.size w W := by rw [hW]; exact (Below.refl _ _).alloc (Nat.le_refl _) _
  have hbx : Box4 w.heap.size n1 n2 n3 (.slice a xs.length cap) W := by rw [hW]; exact Box4.start _ _ _ _ _ _
  have HW : Hid (W = w.alloc (.cells #[.int .i64 n1, .int .i64 n2, .int .i64 n3, .slice a xs.length cap] 26)) := hW
  have HK : Hid (∀ w', Below W.heap.size W w' → Box4 w.heap.size n1 n2 n3 (.slice a xs.length cap) w') := fun w' h => hbx.below h
  have HEnd : Hid (∀ w', Below W.heap.size W w' → Below w.heap.size w w') := fun w' h => hb0.trans (h.mono hb0.size)
  have HNU : Hid (∀ w', Below W.heap.size W w' → ints.Nums w' b ts) := fun w' h => (hk.below hb0).below h
  have HCF : Hid (Calls _ _ _ _ _) := spec_conf W n1 n2 n3 a cap xs hn (hl.below hb0) hz
  have HMP : Hid (∀ w, Calls _ _ _ w _) := fun w => l6Map_any m w
  have HPL : Hid (ts.length ≤ 400 → planPre n1 n2 n3 xs m ts = true → ∀ w', Below W.heap.size W w' → Calls _ _ _ w' _) := fun h1 h2 w' h => l10Plan_any w' n1 n2 n3 a cap xs m b cb ts hn ((hl.below hb0).below h) hz h1 ((hk.below hb0).below h) h2
  have HNO : Hid (∀ {w' : World} {e : Ending}, planPre n1 n2 n3 xs m ts = false ∨ planK n1 n2 xs ts m ts.length = none → e = .returned (.tuple #[.slice none 0 0, .bool false]) → Below w.heap.size w w' → PlAns n1 n2 n3 xs m ts w e w' ∧ Below w.heap.size w w') := fun h1 h2 h3 => ⟨pl_no h1 h2 h3, h3⟩
  have HYES : Hid (∀ {w' : World} {e : Ending} {v : Value} {q : ByteArray} {l : List Int}, planPre n1 n2 n3 xs m ts = true → planK n1 n2 xs ts m ts.length = some (q, l) → e = .returned (.tuple #[v, .bool true]) → w'.ownsRow w.heap.size 2 1 v l.length (l.map (Value.int .i64)) → Below w.heap.size w w' → PlAns n1 n2 n3 xs m ts w e w' ∧ Below w.heap.size w w') := fun h1 h2 h3 h4 h5 => ⟨pl_yes h1 h2 h3 h4 h5, h5⟩
  have HPD : Hid (planPre n1 n2 n3 xs m ts = (configOk n1 n2 n3 xs && (mapOk m && (decide (ts.length ≤ 400) && allIn xs.length ts ts.length)))) := rfl
  have HSZ : Hid (w.heap.size ≤ W.heap.size) := hb0.size
  generalize PlAns n1 n2 n3 xs m ts w = ANS at HNO HYES ⊢
  clear hW hb0 hbx hl hz hk
  cases hc : configOk n1 n2 n3 xs with
  | false =>
    rw [hc] at HCF HPD
    have HF : Hid (planPre n1 n2 n3 xs m ts = false) := HPD.out
    clear hc HPD HPL
    go_enter Try.func10, Try.ntmps10
    go_wp2_with fail
    rw [← HW.out]
    refine HCF.out.mono ?_
    rintro e w1 ⟨rfl, hb1⟩
    have HB1 : Hid (Below W.heap.size W w1) := hb1
    clear hb1
    go_wp2
    go_ret2
    exact HNO.out (.inl HF.out) rfl (HEnd.out _ HB1.out)
  | true =>
    rw [hc] at HCF HPD
    cases hm : mapOk m with
    | false =>
      rw [hm] at HMP HPD
      have HF : Hid (planPre n1 n2 n3 xs m ts = false) := HPD.out
      clear hc hm HPD HPL
      go_enter Try.func10, Try.ntmps10
      go_wp2_with fail
      rw [← HW.out]
      refine HCF.out.mono ?_
      rintro e w1 ⟨rfl, hb1⟩
      have HB1 : Hid (Below W.heap.size W w1) := hb1
      clear hb1
      go_wp2_with fail
      refine (HMP.out _).mono ?_
      rintro e w2 ⟨rfl, hb2⟩
      have HB2 : Hid (Below W.heap.size W w2) := HB1.out.trans (hb2.mono HB1.out.size)
      clear hb2
      go_wp2
      go_ret2
      exact HNO.out (.inl HF.out) rfl (HEnd.out _ HB2.out)
    | true =>
      rw [hm] at HMP HPD
      by_cases h400 : ts.length ≤ 400
      · have hle : ¬ ((400 : Int) < (ts.length : Int)) := by omega
        have HPD2 : Hid (planPre n1 n2 n3 xs m ts = allIn xs.length ts ts.length) := by show planPre n1 n2 n3 xs m ts = _; rw [HPD.out, decide_eq_true h400]; simp
        have HP4 : Hid (planPre n1 n2 n3 xs m ts = true → ∀ w', Below W.heap.size W w' → _) := HPL.out h400
        have hlx : IntKind.i64.wrap ((xs.length : Int) - 1) = (xs.length : Int) - 1 := by rw [IntKind.wrap_i64]; omega
        clear hc hm HPD HPL
        go_enter Try.func10, Try.ntmps10
        go_wp2_with fail
        rw [← HW.out]
        refine HCF.out.mono ?_
        rintro e w1 ⟨rfl, hb1⟩
        have HB1 : Hid (Below W.heap.size W w1) := hb1
        clear hb1
        go_wp2_with fail
        refine (HMP.out _).mono ?_
        rintro e w2 ⟨rfl, hb2⟩
        have HB2 : Hid (Below W.heap.size W w2) := HB1.out.trans (hb2.mono HB1.out.size)
        clear hb2
        go_wp2
        go_loopw [8] (fun i wr => ∃ k : Nat, k ≤ ts.length ∧ i = .int .i64 (k : Int) ∧ allIn xs.length ts k = true ∧ Below W.heap.size W wr) (fun i _ => ts.length - (intOf i).toNat)
        case atStart => exact ⟨0, Nat.zero_le _, rfl, rfl, HB2.out⟩
        case round =>
          obtain ⟨k, hk, rfl, hok, hb⟩ := hrel
          have HB : Hid (Below W.heap.size W wr) := hb
          have HOK : Hid (allIn xs.length ts k = true) := hok
          clear hb hok
          obtain ⟨m0, m1, m2, m3⟩ := HK.out wr HB.out
          by_cases hlt : k < ts.length
          · have hlti : (k : Int) < (ts.length : Int) := by omega
            have hk0 : (0 : Int) ≤ (k : Int) := by omega
            obtain ⟨b2, off, rfl, c0⟩ := HNU.out wr HB.out k hlt
            rw [getD_intI2 ts k hlt] at c0
            have HST : Hid (allIn xs.length ts (k + 1) = placeB xs.length (ts.getD k 0)) := by
              show allIn xs.length ts (k + 1) = _
              rw [allIn, HOK.out]; rfl
            have HLE : Hid (allIn xs.length ts (k + 1) = false → allIn xs.length ts ts.length = false) := allIn_le xs.length ts (k + 1) ts.length (by omega)
            generalize ts.getD k 0 = r at c0 HST
            have HIN : Hid (∀ w, Calls Try.prog 43 #[.int .i64 r, .int .i64 0, .int .i64 ((xs.length : Int) - 1)] w fun e w' => e = .returned (.bool (placeB xs.length r)) ∧ w' = w) := fun w => (ref.specIn_any w r 0 ((xs.length : Int) - 1)).mono fun _ _ h => ⟨by
              rw [h.1]
              unfold placeB
              have : decide (r ≤ (xs.length : Int) - 1) = decide (r < (xs.length : Int)) := by
                by_cases q : r < (xs.length : Int)
                · rw [decide_eq_true q, decide_eq_true (by omega)]
                · rw [decide_eq_false q, decide_eq_false (by omega)]
              rw [this], h.2.symm⟩
            have HBd : Hid (∀ j, Below W.heap.size W (wr.drewN j)) := fun j => ⟨HB.out.os, HB.out.tape, HB.out.output, HB.out.size, HB.out.block⟩
            cases hpl : placeB xs.length r with
            | false =>
              rw [hpl] at HIN HST
              have HF : Hid (planPre n1 n2 n3 xs m ts = false) := by show planPre n1 n2 n3 xs m ts = false; rw [HPD2.out, HLE.out HST.out]
              clear hpl
              go_wp2
              go_quiet (first | (go_at_call 43; refine Calls.quiet_of_same (HIN.out _)))
              go_wp2
              go_ret2
              exact HNO.out (.inl HF.out) rfl (HEnd.out _ (HBd.out _))
            | true =>
              rw [hpl] at HIN HST
              clear hpl
              go_wp2
              go_quiet (first | (go_at_call 43; refine Calls.quiet_of_same (HIN.out _)))
              go_wp2
              go_roundw
              case rel => exact ⟨k + 1, by omega, by go_num, HST.out, HBd.out _⟩
              case measure => simp [intOf]; omega
          · obtain rfl : k = ts.length := by omega
            have HF : Hid (planPre n1 n2 n3 xs m ts = true) := by show planPre n1 n2 n3 xs m ts = true; rw [HPD2.out, HOK.out]
            have HP5 : Hid (∀ w', Below W.heap.size W w' → _) := HP4.out HF.out
            go_wp2_with fail
            refine (HP5.out _ HB.out).mono ?_
            rintro e w3 ⟨hcase, hb3⟩
            have HB3 : Hid (Below W.heap.size W w3) := HB.out.trans (hb3.mono HB.out.size)
            clear hb3 m0 m1 m2 m3
            rcases hcase with ⟨hno, rfl⟩ | ⟨q, l, v, hsome, rfl, hown⟩
            · have HN2 : Hid (planK n1 n2 xs ts m ts.length = none) := hno
              clear hno
              go_wp2
              go_ret2
              exact HNO.out (.inr HN2.out) rfl (HEnd.out _ HB3.out)
            · have HS2 : Hid (planK n1 n2 xs ts m ts.length = some (q, l)) := hsome
              have HO3 : Hid (w3.ownsRow w.heap.size 2 1 v l.length (l.map (Value.int .i64))) := ints.own_mono hown (Nat.le_trans HSZ.out HB.out.size)
              clear hsome hown
              go_wp2
              go_ret2
              exact HYES.out HF.out HS2.out rfl HO3.out (HEnd.out _ HB3.out)
      · have hle : (400 : Int) < (ts.length : Int) := by omega
        have HF : Hid (planPre n1 n2 n3 xs m ts = false) := by show planPre n1 n2 n3 xs m ts = false; rw [HPD.out, decide_eq_false h400]; rfl
        clear hc hm HPD HPL
        go_enter Try.func10, Try.ntmps10
        go_wp2_with fail
        rw [← HW.out]
        refine HCF.out.mono ?_
        rintro e w1 ⟨rfl, hb1⟩
        have HB1 : Hid (Below W.heap.size W w1) := hb1
        clear hb1
        go_wp2_with fail
        refine (HMP.out _).mono ?_
        rintro e w2 ⟨rfl, hb2⟩
        have HB2 : Hid (Below W.heap.size W w2) := HB1.out.trans (hb2.mono HB1.out.size)
        clear hb2
        go_wp2
        go_ret2
        exact HNO.out (.inl HF.out) rfl (HEnd.out _ HB2.out)
end Go.Proofs.Ytomlogkbndmaaaa.pl
