/-
  The draw of a map with a run of it; nothing that was there is written.
-/
import Derived.Test.YtkckhklllcggeaaFoundMath
namespace Go.Proofs.Ytkckhklllcggeaa.lb
open Go.RowKit
open ints rd

set_option maxHeartbeats 2000000 in
theorem draw_take (w : World) (a : Option Addr) (len cap : Nat) (hs : len ≤ 1048576) (hc : RdCode w w.heap.size a len) :
    Calls Try.prog 23 #[.slice a len cap] w fun e w' => ∃ (s : ByteArray) (x n : Int), e = .returned (.tuple #[.string s, .int .i64 x, .int .i64 n]) ∧ s.size ≤ 65 ∧ Below w.heap.size w w' := by
  have HC : Hid (RdCode w w.heap.size a len) := hc
  clear hc
  go_enter Try.func23, Try.ntmps23
  go_wp2_with fail
  refine (open_any _ a len cap hs HC.out).mono ?_
  rintro e w1 ⟨rfl, hr1, hb1⟩
  have HR1 : Hid (Rd w1 w.heap.size a len cap) := hr1
  have HB1 : Hid (Below w.heap.size w w1) := hb1
  have hRs := hr1.size
  clear hr1 hb1
  go_wp2_with fail
  refine (aMap_any _ _ a len cap HR1.out).mono ?_
  rintro e w2 ⟨s, rfl, hs2, hr2, hb2⟩
  have HR2 : Hid (Rd w2 w.heap.size a len cap) := hr2
  have HG2 : Hid (w1.grownBy w2 (some w.heap.size)) := hb2
  have HS2 : Hid (s.size ≤ 65) := hs2
  clear hr2 hb2 hs2
  go_wp2_with fail
  refine (below_pos _ _ a len cap HR2.out 3 (by omega) (by omega)).mono ?_
  rintro e w3 ⟨n, rfl, hn, hr3, hb3⟩
  have HR3 : Hid (Rd w3 w.heap.size a len cap) := hr3
  have HG3 : Hid (w1.grownBy w3 (some w.heap.size)) := gtrans HG2.out hb3
  clear hr3 hb3
  have hw2 : IntKind.i64.wrap (1 + (n : Int)) = 1 + (n : Int) := by rw [IntKind.wrap_i64]; omega
  have HGS : Hid (∀ w, Calls _ _ _ w _) := fun w => spec_gaps s 0 128 w
  obtain ⟨hs1, hs2, hs3⟩ := gapsOfM_sum s 0 128
  generalize gapsOfM s 0 128 = G at HGS hs1 hs2 hs3
  have HM : Hid (∀ s ∈ G, s.1 + s.2 ≤ 128) := hs3
  clear hs1 hs3
  go_wp2_with fail
  refine (HGS.out _).mono ?_
  rintro e w4 ⟨v, rfl, hown, hb4⟩
  have HSP : Hid (Spans w4 v G) := spans_of_row hown
  have HBL : Hid (0 < G.length → ∃ g cp, v = .slice (some ⟨g, 0, none⟩) G.length cp ∧ w3.heap.size ≤ g) := fun h => by
    obtain ⟨g, cp, e, hb, _⟩ := own_open hown h
    exact ⟨g, cp, e, hb⟩
  have HR4 : Hid (Rd w4 w.heap.size a len cap) := HR3.out.later hb4
  have HG4 : Hid (w1.grownBy w4 (some w.heap.size)) := gbelow HG3.out hb4
  have hR3 : w.heap.size < w3.heap.size := HR3.out.size
  obtain ⟨ad, cp, rfl, hsp⟩ := HSP.out
  clear hown hb4 hsp
  by_cases h0 : 0 < G.length
  · have h0i : (0 : Int) < (G.length : Int) := by omega
    obtain ⟨gg, cpp, hgg, hggs⟩ := HBL.out h0
    injection hgg with hgg _ _
    subst hgg
    go_wp2_with fail
    refine (once_any _ _ a len cap HR4.out 5 (by omega) (by omega)).mono ?_
    rintro e w5 ⟨q, rfl, hr5, hb5⟩
    have HR5 : Hid (Rd w5 w.heap.size a len cap) := hr5
    have HG5 : Hid (w1.grownBy w5 (some w.heap.size)) := gtrans HG4.out hb5
    have H45 : Hid (w4.grownBy w5 (some w.heap.size)) := hb5
    clear hr5 hb5
    cases q with
    | false =>
      go_wp2_with fail
      refine (below_pos _ _ a len cap HR5.out (G.length : Int) (by omega) (by omega)).mono ?_
      rintro e w6 ⟨u, rfl, hu, hr6, hb6⟩
      have HG6 : Hid (w1.grownBy w6 (some w.heap.size)) := gtrans HG5.out hb6
      have H46 : Hid (w4.grownBy w6 (some w.heap.size)) := gtrans H45.out hb6
      clear hr6 hb6
      obtain ⟨ad', cap', he, hcs⟩ := HSP.out
      injection he with he1 _ _
      subst he1
      obtain ⟨bk, hbk, d0, d1⟩ := hcs u (by omega)
      injection hbk with hbk
      injection hbk with hbk _ _
      subst hbk
      have hblk := H46.out.block gg (World.block_lt_of_cell? w4 _ d0) (fun q => by have := Option.some.inj q; omega)
      have c0 : w6.cell? ⟨gg, u * 2, none⟩ = some (.int .i64 ((G[u]'(by omega)).1 : Int)) := by rw [World.cell?_of_block (a := ⟨gg, u * 2, none⟩) hblk]; exact d0
      have c1 : w6.cell? ⟨gg, u * 2 + 1, none⟩ = some (.int .i64 ((G[u]'(by omega)).2 : Int)) := by rw [World.cell?_of_block (a := ⟨gg, u * 2 + 1, none⟩) hblk]; exact d1
      generalize G[u]'(by omega) = sp at c0 c1
      obtain ⟨p, z⟩ := sp
      simp only at c0 c1
      have HB6 : Hid (∀ o, Below w.heap.size w (w6.alloc o).drew) := fun o => ((below_of HB1.out HG6.out (Nat.le_refl _) HB1.out.size).alloc (Nat.le_trans HB1.out.size HG6.out.size) o).drew
      clear d0 d1 hcs hblk
      by_cases hzn : (z : Int) ≤ 1 + (n : Int)
      · go_wp2
        go_region
        all_goals
          go_wp2
          refine bodyPost_ret (v := .tuple #[.string s, .int .i64 (p : Int), .int .i64 (z : Int)]) (by simp [results, Try.results23, go_sem]) rfl ?_
          exact ⟨s, _, _, rfl, HS2.out, HB6.out _⟩
      · have hzn2 : 1 + (n : Int) < (z : Int) := by omega
        go_wp2
        go_region
        all_goals
          go_wp2
          refine bodyPost_ret (v := .tuple #[.string s, .int .i64 (p : Int), .int .i64 (1 + (n : Int))]) (by simp [results, Try.results23, go_sem]) rfl ?_
          exact ⟨s, _, _, rfl, HS2.out, HB6.out _⟩
    | true =>
      go_wp2_with fail
      refine (off_any _ _ a len cap HR5.out 0 127 (by omega) (by omega) (by omega)).mono ?_
      rintro e w6 ⟨x, rfl, _, hr6, hb6⟩
      have HR6 : Hid (Rd w6 w.heap.size a len cap) := hr6
      have HG6 : Hid (w1.grownBy w6 (some w.heap.size)) := gtrans HG5.out hb6
      clear hr6 hb6
      go_wp2_with fail
      refine (off_any _ _ a len cap HR6.out 1 128 (by omega) (by omega) (by omega)).mono ?_
      rintro e w7 ⟨y, rfl, _, hr7, hb7⟩
      have HG7 : Hid (w1.grownBy w7 (some w.heap.size)) := gtrans HG6.out hb7
      clear hr7 hb7
      go_wp2
      refine bodyPost_ret (v := .tuple #[.string s, .int .i64 x, .int .i64 y]) (by simp [results, Try.results23, go_sem]) rfl ?_
      exact ⟨s, x, y, rfl, HS2.out, below_of HB1.out HG7.out (Nat.le_refl _) HB1.out.size⟩
  · have h0i : ¬ (0 : Int) < (G.length : Int) := by omega
    go_wp2_with fail
    refine (off_any _ _ a len cap HR4.out 0 127 (by omega) (by omega) (by omega)).mono ?_
    rintro e w6 ⟨x, rfl, _, hr6, hb6⟩
    have HR6 : Hid (Rd w6 w.heap.size a len cap) := hr6
    have HG6 : Hid (w1.grownBy w6 (some w.heap.size)) := gtrans HG4.out hb6
    clear hr6 hb6
    go_wp2_with fail
    refine (off_any _ _ a len cap HR6.out 1 128 (by omega) (by omega) (by omega)).mono ?_
    rintro e w7 ⟨y, rfl, _, hr7, hb7⟩
    have HG7 : Hid (w1.grownBy w7 (some w.heap.size)) := gtrans HG6.out hb7
    clear hr7 hb7
    go_wp2
    refine bodyPost_ret (v := .tuple #[.string s, .int .i64 x, .int .i64 y]) (by simp [results, Try.results23, go_sem]) rfl ?_
    exact ⟨s, x, y, rfl, HS2.out, below_of HB1.out HG7.out (Nat.le_refl _) HB1.out.size⟩
end Go.Proofs.Ytkckhklllcggeaa.lb
