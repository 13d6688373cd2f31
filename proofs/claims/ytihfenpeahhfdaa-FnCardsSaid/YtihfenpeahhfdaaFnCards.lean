/-
  FnCards: for every code the law on drawn sets (each word lies in one of the lines, each line has one, and they rise) returns true, and the code reads as before; no condition.
-/
import Derived.Test.YtihfenpeahhfdaaRows
import Derived.WalkKit
import Derived.Test.YtihfenpeahhfdaaCardLaw
import Derived.Test.YtihfenpeahhfdaaDrawS
import Derived.ProofKit
import Derived.OpenShut
import Derived.ShutString
import Derived.ChangeOld
import Derived.Below
namespace Go.Proofs.Ytihfenpeahhfdaa.fnCards
open Go.ChangeShapes Go.WideShapes Go.ChangeAt Go.RowKit
open Go.ChangeMaps (open_string shut_string)
set_option linter.unusedVariables false
open ints rd

theorem own : ownKnob Try.prog.godebug = none := by kernel_rfl
theorem laidOut : laidOutB Try.prog = true := by kernel_rfl

/-- WHAT THE WALK IS TOLD OF A SLICE OF INTEGERS THAT CAME IN: it is nil; or it leads to a row of 'cap' cells, the numbers 'zs' (the first 'len' are its elements, the rest its spare room), each fitting its kind. -/
def IsRow (k : IntKind) (w : World) (a : Option Addr) (len cap : Nat) (zs : List Int) : Prop :=
  (a = none ∧ len = 0 ∧ cap = 0 ∧ zs = []) ∨
  ∃ x, a = some x ∧ len ≤ cap ∧ cap ≤ maxLen ∧ zs.length = cap ∧ (∀ i, i < zs.length → w.cell? (x.add i) = some (.int k (zs.getD i 0))) ∧ ∀ n ∈ zs, (Lit.int k n).wf = true

set_option maxRecDepth 20000 in
theorem walk (a0 : Option Addr) (len0 cap0 : Nat) (z0 : List Int) (w : World) (w0 : IsRow .u8 w a0 len0 cap0 z0) :
    Calls Try.prog 4 #[.slice a0 len0 cap0] w fun e w' => e = .returned (.bool true) ∧ Below w.heap.size w w' := by
  have c0 := code_of w0
  clear w0
  by_cases hb0 : 1048576 < len0
  · go_enter Try.func4, Try.ntmps4
    go_wp2_with fail
    refine (big_yes _ a0 len0 cap0 hb0).mono ?_
    rintro e w' ⟨rfl, rfl⟩
    go_wp2
    go_ret
    exact ⟨rfl, Below.refl _ _⟩
  have HC : Hid (RdCode w w.heap.size a0 len0) := c0
  clear c0
  go_enter Try.func4, Try.ntmps4
  go_wp2_with fail
  refine (big_no _ a0 len0 cap0 (by omega)).mono ?_
  rintro e w' ⟨rfl, rfl⟩
  go_wp2_with fail
  refine (draw_cards _ a0 len0 cap0 (by omega) HC.out).mono ?_
  rintro e w1 ⟨v, rfl, xs, hxl, hown, hb⟩
  obtain ⟨ad, g, cp, rfl, _, hi1⟩ := ints_of_row hown
  have HB1 : Hid (Below w.heap.size w w1) := hb
  have HI1 : Hid (Ints w1 ad g xs) := hi1
  have HXL : Hid (xs.length ≤ 1048576) := by show xs.length ≤ 1048576; omega
  clear hb hown hi1 hxl
  have HCI : Hid (∀ (w : World) (a : Option Addr) (cap : Nat), Nums w a xs → _) := fun w a cap h => impl_cards w a cap xs HXL.out h
  have HCS : Hid (∀ (w : World) (a : Option Addr) (cap : Nat), Nums w a xs → _) := fun w a cap h => spec_cards w a cap xs HXL.out h
  have HOK : Hid (∀ (w : World) (a : Option Addr) (cap : Nat), Nums w a xs → _) := fun w a cap h => spec_setok w a cap xs HXL.out h
  have HKN : Hid (riseN xs 1023 xs.length = true → (∀ i, i < xs.length → xs.getD i 0 / 8 ∈ cardsS xs) ∧ (∀ x ∈ cardsS xs, x ∈ xs.map (· / 8)) ∧ (∀ j, j + 1 < (cardsS xs).length → (cardsS xs).getD j 0 < (cardsS xs).getD (j + 1) 0)) := cards_know xs
  have HIN : Hid (riseN xs 1023 xs.length = true → ∀ k, k < xs.length → 0 ≤ xs.getD k 0 ∧ xs.getD k 0 ≤ 1023) := fun h k hk => riseN_in xs 1023 h k hk
  have HLC : Hid ((cardsS xs).length ≤ 1048576) := cardsS_len xs HXL.out
  generalize cardsS xs = cs at HCI HCS HKN HLC
  go_wp2_with fail
  refine (HCI.out w1 _ _ HI1.out.nums).mono ?_
  rintro e w2 ⟨v, rfl, hown, hb2⟩
  obtain ⟨al, gl, cl, rfl, _, hi2⟩ := ints_of_row hown
  have HB2 : Hid (Below w.heap.size w w2) := HB1.out.trans (hb2.mono HB1.out.size)
  have HI2 : Hid (Ints w2 ad g xs) := HI1.out.below hb2
  have HJ2 : Hid (Ints w2 al gl cs) := hi2
  clear hown hi2 hb2
  go_wp2_with fail
  refine (HCS.out w2 _ _ HI2.out.nums).mono ?_
  rintro e w3 ⟨v, rfl, hown, hb3⟩
  obtain ⟨am, gm, cm, rfl, _, hi3⟩ := ints_of_row hown
  have HB3 : Hid (Below w.heap.size w w3) := HB2.out.trans (hb3.mono HB2.out.size)
  have HI3 : Hid (Ints w3 ad g xs) := HI2.out.below hb3
  have HJ3 : Hid (Ints w3 al gl cs) := HJ2.out.below hb3
  have HM3 : Hid (Ints w3 am gm cs) := hi3
  clear hown hi3 hb3
  go_wp2_with fail
  refine (sameInts_same w3 al am gl gm cl cm cs HLC.out HJ3.out HM3.out).mono ?_
  rintro e w4 ⟨rfl, hb4⟩
  have HB4 : Hid (Below w.heap.size w w4) := HB3.out.trans (hb4.mono HB3.out.size)
  have HI4 : Hid (Ints w4 ad g xs) := HI3.out.below hb4
  have HJ4 : Hid (Ints w4 al gl cs) := HJ3.out.below hb4
  clear hb4
  go_wp2_with fail
  refine (HOK.out w4 _ _ HI4.out.nums).mono ?_
  rintro e w5 ⟨rfl, hb5⟩
  have HB5 : Hid (Below w.heap.size w w5) := HB4.out.trans (hb5.mono HB4.out.size)
  have HI5 : Hid (Ints w5 ad g xs) := HI4.out.below hb5
  have HJ5 : Hid (Ints w5 al gl cs) := HJ4.out.below hb5
  clear hb5
  cases hr : riseN xs 1023 xs.length with
  | false =>
    clear hr
    go_wp2_with fail
    refine (HCS.out w5 _ _ HI5.out.nums).mono ?_
    rintro e w6 ⟨v, rfl, hown, hb6⟩
    obtain ⟨an, gn, cn, rfl, _, hi6⟩ := ints_of_row hown
    have HB6 : Hid (Below w.heap.size w w6) := HB5.out.trans (hb6.mono HB5.out.size)
    have HJ6 : Hid (Ints w6 al gl cs) := HJ5.out.below hb6
    have HM6 : Hid (Ints w6 an gn cs) := hi6
    clear hown hi6 hb6
    go_wp2_with fail
    refine (sameInts_same w6 al an gl gn cl cn cs HLC.out HJ6.out HM6.out).mono ?_
    rintro e w7 ⟨rfl, hb7⟩
    have HB7 : Hid (Below w.heap.size w w7) := HB6.out.trans (hb7.mono HB6.out.size)
    clear hb7
    go_wp2
    go_ret
    exact ⟨rfl, HB7.out⟩
  | true =>
    obtain ⟨hk1, hk2, hk3⟩ := HKN.out hr
    have HK1 : Hid (∀ i, i < xs.length → xs.getD i 0 / 8 ∈ cs) := hk1
    have HK2 : Hid (∀ x ∈ cs, x ∈ xs.map (· / 8)) := hk2
    have HK3 : Hid (∀ j, j + 1 < cs.length → cs.getD j 0 < cs.getD (j + 1) 0) := hk3
    have HI0 : Hid (∀ k, k < xs.length → 0 ≤ xs.getD k 0 ∧ xs.getD k 0 ≤ 1023) := HIN.out hr
    clear hr hk1 hk2 hk3 HKN HIN
    have hxb : xs.length ≤ 1048576 := HXL.out
    have hcb : cs.length ≤ 1048576 := HLC.out
    obtain ⟨X, hX⟩ : ∃ X, X = w5.alloc (.cells #[] 2) := ⟨_, rfl⟩
    have HX : Hid (X = w5.alloc (.cells #[] 2)) := hX
    have hbx : Below w5.heap.size w5 X := by rw [hX]; exact (Below.refl _ _).alloc (Nat.le_refl _) _
    have HBX : Hid (Below w.heap.size w X) := HB5.out.trans (hbx.mono HB5.out.size)
    have HB5X : Hid (Below w5.heap.size w5 X) := hbx
    have HO0 : Hid (X.ownsRow w5.heap.size 2 1 (.slice (some ⟨w5.heap.size, 0, none⟩) 0 0) ((xs.take 0).map (· / 8)).length (((xs.take 0).map (· / 8)).map (Value.int .i64))) := ⟨rfl, .inr ⟨w5.heap.size, 0, #[], rfl, Nat.le_refl _, by rw [hX]; exact heap_alloc_last w5 _, Nat.le_refl _, Nat.zero_le _, rfl, rfl⟩⟩
    clear hX hbx
    go_wp2
    rw [← HX.out]
    go_loopw [5, 6] (fun o i wr => ∃ k : Nat, k ≤ xs.length ∧ i = .int .i64 (k : Int) ∧ wr.ownsRow w5.heap.size 2 1 o ((xs.take k).map (· / 8)).length (((xs.take k).map (· / 8)).map (Value.int .i64)) ∧ Below w5.heap.size w5 wr) (fun _ i _ => xs.length - (intOf i).toNat)
    case atStart => exact ⟨0, Nat.zero_le _, rfl, HO0.out, HB5X.out⟩
    case round =>
      obtain ⟨k, hk, rfl, hown, hb⟩ := hrel
      have HO : Hid (wr.ownsRow w5.heap.size 2 1 u5 ((xs.take k).map (· / 8)).length (((xs.take k).map (· / 8)).map (Value.int .i64))) := hown
      have HB : Hid (Below w5.heap.size w5 wr) := hb
      clear hown hb
      have HIr : Hid (Ints wr ad g xs) := HI5.out.below HB.out
      have HJr : Hid (Ints wr al gl cs) := HJ5.out.below HB.out
      by_cases hlt : k < xs.length
      · have hlti : (k : Int) < (xs.length : Int) := by omega
        have hk0 : (0 : Int) ≤ (k : Int) := by omega
        obtain ⟨rfl, c0, _⟩ := HIr.out k hlt
        rw [getD_intI xs k hlt] at c0
        obtain ⟨hx0, hx1⟩ := HI0.out k hlt
        have HHA : Hid (Calls _ _ _ wr _) := has_any wr al cs.length cl cs (xs.getD k 0 / 8) rfl HLC.out HJr.out.nums (HK1.out k hlt)
        have HS : Hid ((xs.take (k + 1)).map (· / 8) = (xs.take k).map (· / 8) ++ [xs.getD k 0 / 8]) := by
          show (xs.take (k + 1)).map (· / 8) = _
          rw [List.take_succ_eq_append_getElem hlt, List.map_append, getD_intI xs k hlt]
          rfl
        have HLK : Hid (((xs.take k).map (· / 8)).length ≤ 1048576) := by have := HXL.out; show ((xs.take k).map (· / 8)).length ≤ _; simp; omega
        generalize xs.getD k 0 = x at c0 HS hx0 hx1 HHA
        generalize (xs.take k).map (· / 8) = L at HO HS HLK
        obtain ⟨q, rfl⟩ := Int.eq_ofNat_of_zero_le hx0
        clear hx0
        go_wp2_with fail
        refine HHA.out.mono ?_
        rintro e w6 ⟨rfl, hw6⟩
        have hw7 := hw6.symm
        clear hw6
        subst hw7
        go_wp2_with (refine wpList_push wr (by rfl) _ _ (by rfl) w5.heap.size u5 L ((q : Int) / 8) HO.out (by rfl) (by rfl) HLK.out HB.out.size ?_; intro g2 c2 w7 hown7 hb7 hB7; have HO7 : Hid (_) := hown7; have HB7 : Hid (Below w5.heap.size w5 w7) := HB.out.trans hb7; clear hown7 hb7 hB7)
        go_roundw
        case rel => exact ⟨k + 1, by omega, by go_num, by rw [HS.out]; exact HO7.out, HB7.out⟩
        case measure => simp [intOf]; omega
      · obtain rfl : k = xs.length := by omega
        have hO := HO.out
        rw [List.take_length] at hO
        obtain ⟨an, gn, cn, rfl, _, hin⟩ := ints_of_row hO
        have HL8 : Hid ((xs.map (· / 8)).length = xs.length) := by show (xs.map (· / 8)).length = xs.length; simp
        have HLT : Hid (∀ w', Below wr.heap.size wr w' → Nums w' an (xs.map (· / 8)) ∧ Ints w' al gl cs ∧ Below w.heap.size w w') := fun w' h => ⟨(hin.below h).nums, HJr.out.below h, HB5.out.trans ((HB.out.trans (h.mono HB.out.size)).mono HB5.out.size)⟩
        have HHA : Hid (∀ (w' : World) (r : Int), Nums w' an (xs.map (· / 8)) → r ∈ cs → Calls Try.prog 17 #[.slice an xs.length cn, .int .i64 r] w' fun e w'' => e = .returned (.bool true) ∧ w'' = w') := fun w' r q1 q2 => has_any w' an xs.length cn (xs.map (· / 8)) r HL8.out HXL.out q1 (HK2.out r q2)
        rw [HL8.out]
        clear hin hO
        go_wp2
        go_loopw [7] (fun i wq => ∃ k : Nat, k ≤ cs.length ∧ i = .int .i64 (k : Int) ∧ Below wr.heap.size wr wq) (fun i _ => cs.length - (intOf i).toNat)
        case atStart => exact ⟨0, Nat.zero_le _, rfl, Below.refl _ _⟩
        case round =>
          obtain ⟨k, hk, rfl, hbq⟩ := hrel
          obtain ⟨hn1, hj1, hbw⟩ := HLT.out wr hbq
          have HBq : Hid (∀ n, Below _ _ (wr.drewN n)) := fun n => ⟨hbq.os, hbq.tape, hbq.output, hbq.size, hbq.block⟩
          have HBW : Hid (Below w.heap.size w wr) := hbw
          clear hbq hbw
          by_cases hlt : k < cs.length
          · have hlti : (k : Int) < (cs.length : Int) := by omega
            have hk0 : (0 : Int) ≤ (k : Int) := by omega
            obtain ⟨rfl, c0, _⟩ := hj1 k hlt
            have HH2 : Hid (∀ w', (∃ n, w' = wr.drewN n) → Calls Try.prog 17 #[.slice an xs.length cn, .int .i64 (cs.getD k 0)] w' fun e w'' => e = .returned (.bool true) ∧ w'' = w') := fun w' q => by
              obtain ⟨n, rfl⟩ := q
              exact HHA.out (wr.drewN n) (cs.getD k 0) (fun i hi => hn1 i hi) (by rw [← getD_intI cs k hlt]; exact List.getElem_mem hlt)
            rw [getD_intI cs k hlt] at c0
            cases k with
            | zero =>
              generalize cs.getD 0 0 = x at c0 HH2
              have hlen0 : (0 : Int) < (cs.length : Int) := by omega
              rw [show ((0 : Nat) : Int) = 0 from rfl]
              clear hn1 hj1
              go_wp2
              go_quiet (first | (go_at_call 17; refine Calls.quiet_of_same (HH2.out _ ⟨_, rfl⟩)))
              go_wp2
              go_roundw
              case rel => exact ⟨0 + 1, by omega, by go_num, HBq.out _⟩
              case measure => simp [intOf]; omega
            | succ j =>
              obtain ⟨_, c1, _⟩ := hj1 j (by omega)
              rw [getD_intI cs j (by omega)] at c1
              have hup := HK3.out j hlt
              have hj0 : (0 : Int) < ((j + 1 : Nat) : Int) := by omega
              have hj2 : ((j + 1 : Nat) : Int) - 1 = (j : Int) := by omega
              have hj3 : (j : Int) < (cs.length : Int) := by omega
              generalize cs.getD (j + 1) 0 = x at c0 HH2 hup
              generalize cs.getD j 0 = y at c1 hup
              have hxy : decide (x ≤ y) = false := decide_eq_false (by omega)
              have hxy2 : ¬ x ≤ y := by omega
              clear hn1 hj1
              go_wp2
              go_quiet (first | (go_at_call 17; refine Calls.quiet_of_same (HH2.out _ ⟨_, rfl⟩)))
              go_wp2
              go_roundw
              case rel => exact ⟨j + 1 + 1, by omega, by go_num, HBq.out _⟩
              case measure => simp [intOf]; omega
          · have hge : ¬ (k : Int) < (cs.length : Int) := by omega
            clear hn1 hj1
            go_wp2
            go_ret
            exact ⟨rfl, HBW.out⟩

set_option maxRecDepth 100000 in
theorem lifted (os : Os) (started : os.Started) (H : Type) (enc : TypeId × Value → H) :
    ReturnsInHanded {} Try.checked os 4 .any (Rows.fnCardsSpec.pre6 enc Try.prog Try.f4 Rows.fnCardsRow.domain false) (Rows.fnCardsSpec.post enc Try.prog Try.f4 false true false false) := by
  refine returnsInHanded_of_change (C := Try.checked) own started (by kernel_rfl) Try.func4
    (ChangeSpec.witness6 (enc := enc) (C := Try.checked) false ⟨#[], #[.slice none 0 0], []⟩ 8 (by kernel_rfl) (by kernel_rfl) (by kernel_rfl) (by kernel_rfl)) ?_
  intro W base args ds gs before hval0 hW hcnd _
  have hval : ∀ (j : Nat) t v, Try.f4.params[j]? = some t → args[j]? = some v → Value.okWide Try.prog W .any base t v := hval0
  have hW' := hW
  obtain ⟨p, q, hA0, hV, rfl, hfz, hnd⟩ := hW
  have hA : DataW.TrodAll enc Try.prog W 0 (fun _ => true) true Try.f4.params.toList args.toList ds p := hA0
  rw [Try.params4] at hA hval
  obtain ⟨v0, vs0, d0, ds0, p0, q0, hargs, rfl, rfl, h0, r0⟩ := trodAll_cons hA
  obtain ⟨rfl, rfl, rfl⟩ := trodAll_nil r0
  obtain rfl : args = #[v0] := by cases args; simp_all
  obtain ⟨rfl, rfl⟩ := trodVars_none hV
  obtain ⟨a0, len0, cap0, rfl⟩ := okWide_slice Try.underlying22 (hval 0 22 v0 rfl rfl)
  have k0 := h0
  have lt0 : ∀ x ∈ p0, x.block < W.heap.size := by obtain ⟨m, hm⟩ := k0; exact DataW.trod_lt m _ _ _ hm
  obtain ⟨z0, w0⟩ : ∃ zs, IsRow .u8 W a0 len0 cap0 zs := by
    obtain ⟨fuel, hf⟩ := h0
    rcases open_ints Try.underlying22 Try.underlying5 (by kernel_rfl) hf with ⟨hcs, _⟩ | ⟨x, l, c, zs, hcs, _, hl, hm, hz, _, hcell, hwz⟩
    · simp [Value.cells] at hcs
      obtain ⟨rfl, rfl, rfl⟩ := hcs
      exact ⟨[], .inl ⟨rfl, rfl, rfl, rfl⟩⟩
    · simp [Value.cells] at hcs
      obtain ⟨rfl, rfl, rfl⟩ := hcs
      exact ⟨zs, .inr ⟨_, rfl, hl, hm, by simpa using hz, hcell, hwz⟩⟩
  clear hA0 hval0
  refine (walk a0 len0 cap0 z0 W w0).mono fun e W' ⟨he, bel⟩ => ?_
  subst he
  exact ⟨_, rfl, _, _, _, [], _, [], hW', trodAll_mk1 (shut_bool Try.underlying4 _), (trodAll_cons_mk (Below.trod laidOut (by kernel_rfl) (of_decide_eq_true (by kernel_rfl)) k0 bel lt0) trodAll_mk0), rfl, bel.frame _, fun h => by cases h⟩

theorem over : Rows.fnCardsRow.holds Try.pinned (OpenSpec.ofChange Rows.fnCardsSpec) :=
  OpenClaim.holds_of_wide 4 Try.f4 rfl rfl rfl rfl rfl rfl rfl ⟨rfl, rfl, rfl, rfl, rfl⟩ rfl rfl rfl rfl rfl (by kernel_rfl) Try.func4 (by kernel_rfl)
    (of_decide_eq_true (by kernel_rfl)) (by unfold Func.isWrapper; first | (rw [if_pos (by decide +kernel)]; kernel_rfl) | (rw [if_neg (by decide +kernel)]; exact ⟨rfl, rfl⟩))
    (fun os started H enc _ => lifted os started H enc)

theorem proved : Rows.FnCardsSaid := over
#print axioms proved
end Go.Proofs.Ytihfenpeahhfdaa.fnCards
