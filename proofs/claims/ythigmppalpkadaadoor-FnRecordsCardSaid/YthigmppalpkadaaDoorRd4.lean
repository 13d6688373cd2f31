/-
  More of the specification's reader: drawn bytes.
-/
import Derived.Test.YthigmppalpkadaaDoorRd3
import Derived.OwnWalk
import Derived.Laws.BytesArg
import Derived.Outline
namespace Go.Proofs.YthigmppalpkadaaDoor.rd
open Go.RowKit
open wmath

theorem info8 : (Tryd.prog.info? 5).map (fun i => (i.zero, i.size, i.bytes)) = some (some (.int .u8 0), 1, 1) := by kernel_rfl

theorem Rd.kept {w w' : World} {R : Nat} {a : Option Addr} {len cap : Nat} {row : Option Nat} (h : Rd w R a len cap) (hg : w.grownBy w' row) (hrow : ∀ k, row = some k → R < k) : Rd w' R a len cap := by
  refine h.above ⟨hg.os, hg.tape, hg.output, hg.size, fun i hi => hg.block i (by have := h.size; omega) (fun e => ?_)⟩
  have := hrow i e.symm
  omega
theorem gkept {a w w' : World} {R : Nat} {row : Option Nat} (h : a.grownBy w (some R)) (hg : w.grownBy w' row) (hrow : ∀ k, row = some k → a.heap.size ≤ k) : a.grownBy w' (some R) :=
  ⟨hg.os.trans h.os, hg.tape.trans h.tape, hg.output.trans h.output, Nat.le_trans h.size hg.size, fun i hi hn =>
    (hg.block i (Nat.lt_of_lt_of_le hi h.size) (fun e => by have := hrow i e.symm; omega)).trans (h.block i hi hn)⟩

set_option maxHeartbeats 1000000 in
theorem bytes_any (w : World) (R : Nat) (a : Option Addr) (len cap : Nat) (h : Rd w R a len cap) (most : Int) (h0 : 0 ≤ most) (h1 : most ≤ 1048576) :
    Calls Tryd.prog 68 #[.pointer (some ⟨R, 0, none⟩), .int .i64 most] w fun e w' => ∃ s : ByteArray, e = .returned (.string s) ∧ (s.size : Int) ≤ most ∧ Rd w' R a len cap ∧ w.grownBy w' (some R) := by
  have HR : Hid (Rd w R a len cap) := h
  have hRsz := h.size
  clear h
  obtain ⟨i0, hi, hz0, hz1, hz2⟩ := info_parts info8
  go_enter Tryd.func68, Tryd.ntmps68
  go_wp2_with fail
  refine (below_pos _ R a len cap (HR.out.alloc _) _ (by omega) (by omega)).mono ?_
  rintro e w1 ⟨v, rfl, hv, hr1, hb1⟩
  have HR1 : Hid (Rd w1 R a len cap) := hr1
  have HG1 : Hid (w.grownBy w1 (some R)) := gtrans (galloc (grefl _ _) _) hb1
  have HO : Hid (w1.ownsRow w.heap.size 5 1 (.slice (some ⟨w.heap.size, 0, none⟩) 0 0) 0 []) := by
    refine World.ownsRow.kept (World.ownsRow_made w #[] 0 (Nat.le_refl _) (by decide) rfl) hb1 (.inr ?_)
    simp [Value.ownBlock]; omega
  clear hr1 hb1
  go_wp2
  go_loopw [5, 6] (fun o i wr => ∃ (j k : Nat) (xs : List Int), i = .int .i64 j ∧ (j : Int) + k ≤ most ∧ xs.length = k ∧ wr.ownsRow w.heap.size 5 1 o k (xs.map (Value.int .u8)) ∧ Rd wr R a len cap ∧ w.grownBy wr (some R)) (fun _ i _ => (intOf i).toNat)
  case atStart => exact ⟨v, 0, [], rfl, by omega, rfl, HO.out, HR1.out, HG1.out⟩
  case round =>
    obtain ⟨j, k, xs, rfl, hjk, hxl, hown, hr, hg⟩ := hrel
    have HRr : Hid (Rd wr R a len cap) := hr
    have HGr : Hid (w.grownBy wr (some R)) := hg
    have HOr : Hid (wr.ownsRow w.heap.size 5 1 u5 k (xs.map (Value.int .u8))) := hown
    clear hr hg hown
    by_cases hj : 0 < j
    · go_wp2_with fail
      refine (below_pos _ R a len cap HRr.out 256 (by omega) (by omega)).mono ?_
      rintro e w2 ⟨u, rfl, hu, hr2, hb2⟩
      have HR2 : Hid (Rd w2 R a len cap) := hr2
      have HG2 : Hid (w.grownBy w2 (some R)) := gtrans HGr.out hb2
      have HO2 : Hid (w2.ownsRow w.heap.size 5 1 u5 k (xs.map (Value.int .u8))) := by
        refine HOr.out.kept hb2 ?_
        cases ho : u5.ownBlock with
        | none => exact .inl rfl
        | some b => exact .inr (by have := (HOr.out.lt b ho).1; simp; omega)
      have hsz2 : w.heap.size ≤ w2.heap.size := HG2.out.size
      clear hr2 hb2
      go_wp2_with (at_builtin; refine wpList_append_own _ rfl _ _ 22 rfl w.heap.size 5 i0 (.int .u8 0) 1 1 Tryd.underlying22 hi hz0 hz1 hz2 rfl (by decide) _ _ _ rfl (HO2.out.alloc _) ⟨w2.heap.size, 0, none⟩ 1 1 [.int .u8 (u : Int)] rfl rfl ?c1 ?c2 ?c3 ?c4 ?c5 ?_)
      case c1 =>
        intro j u hj
        match j, hj with
        | 0, hj => simp at hj; subst hj; simp [Addr.add]
      case c2 => intro u hu; simp at hu; subst hu; rfl
      case c3 => unfold maxLen; omega
      case c4 => omega
      case c5 => simp; omega
      · intro v' w3 hown' hgrow _
        have hlt := (HO2.out.alloc (.cells #[Value.int .u8 (u : Int)] 5)).lt
        have HR3 : Hid (Rd w3 R a len cap) := (HR2.out.alloc _).kept hgrow (fun b hb => by have := (hlt b hb).1; omega)
        have HG3 : Hid (w.grownBy w3 (some R)) := gkept (galloc HG2.out _) hgrow (fun b hb => (hlt b hb).1)
        have HO3 : Hid (w3.ownsRow w.heap.size 5 1 v' (k + 1) ((xs ++ [(u : Int)]).map (Value.int .u8))) := by
          have : (xs ++ [(u : Int)]).map (Value.int .u8) = xs.map (Value.int .u8) ++ [.int .u8 (u : Int)] := by simp
          rw [this]; exact hown'
        clear hown' hgrow hlt
        go_wp2
        go_roundw
        case rel => exact ⟨j - 1, k + 1, xs ++ [(u : Int)], by go_num, by omega, by simp [hxl], HO3.out, HR3.out, HG3.out⟩
        case measure => simp [intOf]; omega
    · obtain rfl : j = 0 := by omega
      rcases HOr.out.2 with ⟨hv0, hk0⟩ | ⟨g, cp, cur, hv0, hgb, hgg, hkc, hcm, hcs, htk⟩
      · have hcv := run_convert_bytes_nil (P := Tryd.prog) wr 22 5 Tryd.underlying22 Tryd.underlying5 0 0 9 Tryd.underlying9
        subst hv0
        go_wp2
        go_ret
        exact ⟨_, rfl, by simpa using h0, HRr.out, HGr.out⟩
      · have hcv := run_convert_bytes_arg (P := Tryd.prog) wr 22 5 Tryd.underlying22 Tryd.underlying5 g 0 k cp xs hxl (fun i hi => by
          have hc := HOr.out.cells (g := g) (by rw [hv0]; rfl) i (.int .u8 (xs.getD i 0)) (by rw [List.getElem?_map, List.getElem?_eq_getElem (by omega)]; simp [List.getD, List.getElem?_eq_getElem (show i < xs.length by omega)])
          have hadd : (⟨g, 0, none⟩ : Addr).add i = ⟨g, 0 + i, none⟩ := by unfold Addr.add; split <;> simp_all
          rw [hadd] at hc
          exact hc) 9 Tryd.underlying9
        have hz := strOfNums_size xs
        generalize strOfNums xs = st at hcv hz
        clear hgb hgg hkc hcm hcs htk
        subst hv0
        go_wp2
        go_ret
        exact ⟨st, rfl, by omega, HRr.out, HGr.out⟩
end Go.Proofs.YthigmppalpkadaaDoor.rd
