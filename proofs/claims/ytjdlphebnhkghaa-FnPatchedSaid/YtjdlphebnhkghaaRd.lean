/-
  The specification's reader of codes: what each of its draws returns, within which bounds, and that it writes nothing below its own block.
-/
import Derived.Test.YtjdlphebnhkghaaRows
import Derived.Test.YtjdlphebnhkghaaWMath
import Derived.WalkKit
import Derived.WalkSpells
import Derived.WalkSmall
import Derived.Handy
import Derived.Below
import Derived.BigQuiet
import Derived.Deep.QuietTactic
namespace Go.Proofs.Ytjdlphebnhkghaa.rd
open Go.RowKit
open wmath

theorem wf_i64 (n : Int) (h1 : -9223372036854775808 ≤ n) (h2 : n ≤ 9223372036854775807) : (Lit.int .i64 n).wf = true := by
  simp only [Lit.wf, IntKind.min, IntKind.max, IntKind.signed, IntKind.bits, Bool.and_eq_true, decide_eq_true_eq, if_true]
  omega

/-- A slice of bytes whose cells can be read and lie in a block below R. -/
def RdCode (w : World) (R : Nat) (a : Option Addr) (len : Nat) : Prop :=
  ∀ i : Nat, i < len → ∃ (b off v : Nat), a = some ⟨b, off, none⟩ ∧ b < R ∧ w.cell? ⟨b, off + i, none⟩ = some (.int .u8 v) ∧ v < 256

theorem gtrans {a b c : World} {row : Option Nat} (h : a.grownBy b row) (k : b.grownBy c row) : a.grownBy c row :=
  ⟨k.os.trans h.os, k.tape.trans h.tape, k.output.trans h.output, Nat.le_trans h.size k.size, fun i hi hn => (k.block i (Nat.lt_of_lt_of_le hi h.size) hn).trans (h.block i hi hn)⟩
theorem grefl (w : World) (row : Option Nat) : w.grownBy w row := ⟨rfl, rfl, rfl, Nat.le_refl _, fun _ _ _ => rfl⟩
theorem gdraws {a w : World} {row : Option Nat} (h : a.grownBy w row) (n : Nat) : a.grownBy (w.drewN n) row := ⟨h.os, h.tape, h.output, h.size, h.block⟩
theorem galloc {a w : World} {row : Option Nat} (h : a.grownBy w row) (o : Obj) : a.grownBy (w.alloc o) row := gtrans h (World.grownBy_alloc w o row)
theorem gput {a w : World} {R : Nat} (h : a.grownBy w (some R)) (x : Value) : a.grownBy (w.setCell ⟨R, 1, none⟩ x) (some R) :=
  gtrans h ⟨rfl, rfl, rfl, by simp, fun k _ hn => Below.heap_setCell w ⟨R, 1, none⟩ x k (fun e => hn (by simp only [e]))⟩
theorem gbelow {a w w' : World} {row : Option Nat} (h : a.grownBy w row) (k : Below w.heap.size w w') : a.grownBy w' row :=
  gtrans h ⟨k.os, k.tape, k.output, k.size, fun i hi _ => k.block i hi⟩
/-- What is grown but at a block that the elder world did not have is below. -/
theorem below_of {a w w' : World} {R B : Nat} (h : Below B a w) (k : w.grownBy w' (some R)) (hB : B ≤ R) (hw : B ≤ w.heap.size) : Below B a w' :=
  h.trans ⟨k.os, k.tape, k.output, k.size, fun i hi => k.block i (Nat.lt_of_lt_of_le hi hw) (fun e => by cases e; omega)⟩

theorem RdCode.grown {w w' : World} {R : Nat} {a : Option Addr} {len : Nat} (h : RdCode w R a len) (hb : w.grownBy w' (some R)) : RdCode w' R a len := by
  intro i hi
  obtain ⟨b, off, v, e, hbR, hc, hv⟩ := h i hi
  exact ⟨b, off, v, e, hbR, hb.cell hc (fun e => Nat.ne_of_lt hbR (by simpa using e)), hv⟩

/-- The reader in block R: it holds the code and a place that is not beyond it. -/
structure Rd (w : World) (R : Nat) (a : Option Addr) (len cap : Nat) : Prop where
  small : len ≤ 1048576
  size : R < w.heap.size
  code : RdCode w R a len
  cell0 : w.cell? ⟨R, 0, none⟩ = some (.slice a len cap)
  cell1 : ∃ p : Nat, p ≤ len ∧ w.cell? ⟨R, 1, none⟩ = some (.int .i64 p)
  open1 : w.frozen? ⟨R, 1, none⟩ = false

theorem Rd.draws {w : World} {R : Nat} {a : Option Addr} {len cap : Nat} (h : Rd w R a len cap) (n : Nat) : Rd (w.drewN n) R a len cap :=
  ⟨h.small, h.size, h.code, h.cell0, h.cell1, h.open1⟩

/-- The reader is kept where its block and what lies below it is kept. -/
theorem Rd.above {w w' : World} {R : Nat} {a : Option Addr} {len cap : Nat} (h : Rd w R a len cap) (hb : Below (R + 1) w w') : Rd w' R a len cap := by
  refine ⟨h.small, Nat.lt_of_lt_of_le h.size hb.size, ?_, ?_, ?_, ?_⟩
  · intro i hi
    obtain ⟨b, off, v, e, hbR, hc, hv⟩ := h.code i hi
    exact ⟨b, off, v, e, hbR, by rw [hb.cell (p := ⟨b, off + i, none⟩) (Nat.lt_succ_of_lt hbR)]; exact hc, hv⟩
  · rw [hb.cell (p := ⟨R, 0, none⟩) (Nat.lt_succ_self R)]; exact h.cell0
  · obtain ⟨p, hp, hc⟩ := h.cell1
    exact ⟨p, hp, by rw [hb.cell (p := ⟨R, 1, none⟩) (Nat.lt_succ_self R)]; exact hc⟩
  · rw [hb.frozen (p := ⟨R, 1, none⟩) (Nat.lt_succ_self R)]; exact h.open1

theorem Rd.alloc {w : World} {R : Nat} {a : Option Addr} {len cap : Nat} (h : Rd w R a len cap) (o : Obj) : Rd (w.alloc o) R a len cap :=
  h.above ((Below.refl _ _).alloc h.size o)
theorem Rd.later {w w' : World} {R : Nat} {a : Option Addr} {len cap : Nat} (h : Rd w R a len cap) (hb : Below w.heap.size w w') : Rd w' R a len cap :=
  h.above (hb.mono h.size)

theorem Rd.put {w : World} {R : Nat} {a : Option Addr} {len cap : Nat} (h : Rd w R a len cap) (p : Nat) (hp : p ≤ len) (n m : Nat) (x : Value) (hx : x = .int .i64 p) :
    Rd (((w.drewN n).setCell ⟨R, 1, none⟩ x).drewN m) R a len cap := by
  subst hx
  have hb : w.grownBy (((w.drewN n).setCell ⟨R, 1, none⟩ (.int .i64 p)).drewN m) (some R) := gdraws (gput (gdraws (grefl _ _) n) _) m
  obtain ⟨q, hq, hc⟩ := h.cell1
  have hd : (w.drewN n).cell? ⟨R, 1, none⟩ = some (.int .i64 q) := hc
  refine ⟨h.small, Nat.lt_of_lt_of_le h.size hb.size, h.code.grown hb, ?_, ⟨p, hp, ?_⟩, ?_⟩
  · show ((w.drewN n).setCell ⟨R, 1, none⟩ (.int .i64 p)).cell? ⟨R, 0, none⟩ = _
    rw [World.cell?_setCell_other _ _ _ _ (by simp)]; exact h.cell0
  · exact World.cell?_setCell_same _ _ _ hd
  · show ((w.drewN n).setCell ⟨R, 1, none⟩ (.int .i64 p)).frozen? ⟨R, 1, none⟩ = _
    rw [World.frozen?_setCell]; exact h.open1

set_option maxHeartbeats 400000 in
theorem next_any (w : World) (R : Nat) (a : Option Addr) (len cap : Nat) (h : Rd w R a len cap) :
    Calls Try.prog 64 #[.pointer (some ⟨R, 0, none⟩)] w fun e w' => ∃ v : Nat, e = .returned (.int .i64 v) ∧ v < 256 ∧ Rd w' R a len cap ∧ w.grownBy w' (some R) := by
  have HR : Hid (Rd w R a len cap) := h
  obtain ⟨hs, hR, hcode, h0, ⟨p, hp, h1⟩, hf⟩ := h
  by_cases hlt : p < len
  · obtain ⟨b, off, v, rfl, hbR, hc, hv⟩ := hcode p hlt
    have hge : ¬ (len : Int) ≤ (p : Int) := by omega
    have hne : b ≠ R := by omega
    go_enter Try.func64, Try.ntmps64
    go_wp2
    go_quiet (fail)
    go_wp2
    go_quiet (fail)
    go_wp2
    go_ret
    exact ⟨v, rfl, hv, HR.out.put (p + 1) (by omega) _ _ _ (by go_num), gdraws (gput (gdraws (grefl _ _) _) _) _⟩
  · have hge : (len : Int) ≤ (p : Int) := by omega
    go_enter Try.func64, Try.ntmps64
    go_wp2
    go_quiet (fail)
    go_wp2
    go_ret
    exact ⟨0, rfl, by omega, HR.out.draws _, gdraws (grefl _ _) _⟩

/-- A draw below n, n from 1 on. -/
theorem below_pos (w : World) (R : Nat) (a : Option Addr) (len cap : Nat) (h : Rd w R a len cap) (n : Int) (h1 : 1 ≤ n) (h2 : n ≤ 1073741824) :
    Calls Try.prog 38 #[.pointer (some ⟨R, 0, none⟩), .int .i64 n] w fun e w' => ∃ v : Nat, e = .returned (.int .i64 v) ∧ (v : Int) < n ∧ Rd w' R a len cap ∧ w.grownBy w' (some R) := by
  have HR : Hid (Rd w R a len cap) := h
  clear h
  by_cases hone : n ≤ 1
  · go_enter Try.func38, Try.ntmps38
    go_wp2
    go_ret
    exact ⟨0, rfl, by omega, HR.out, grefl _ _⟩
  · by_cases hsm : n ≤ 256
    · go_enter Try.func38, Try.ntmps38
      go_wp2_with fail
      refine (next_any _ R a len cap HR.out).mono ?_
      rintro e w1 ⟨v, rfl, hv, hr1, hb1⟩
      have HR1 : Hid (Rd w1 R a len cap) := hr1
      clear hr1
      go_wp2
      go_ret
      refine ⟨(v : Int).toNat % n.toNat, ?_, ?_, HR1.out, hb1⟩
      · refine ret_int ?_
        obtain ⟨m, rfl⟩ := Int.eq_ofNat_of_zero_le (show 0 ≤ n by omega)
        simp
      · obtain ⟨m, rfl⟩ := Int.eq_ofNat_of_zero_le (show 0 ≤ n by omega)
        simp only [Int.toNat_natCast]
        have := Nat.mod_lt v (show 0 < m by omega)
        omega
    · go_enter Try.func38, Try.ntmps38
      go_wp2_with fail
      refine (next_any _ R a len cap HR.out).mono ?_
      rintro e w1 ⟨v, rfl, hv, hr1, hb1⟩
      have HR1 : Hid (Rd w1 R a len cap) := hr1
      clear hr1
      go_wp2_with fail
      refine (next_any _ R a len cap HR1.out).mono ?_
      rintro e w2 ⟨u, rfl, hu, hr2, hb2⟩
      have HR2 : Hid (Rd w2 R a len cap) := hr2
      clear hr2
      go_wp2
      go_ret
      refine ⟨(v * 256 + u) % n.toNat, ?_, ?_, HR2.out, gtrans hb1 hb2⟩
      · refine ret_int ?_
        obtain ⟨m, rfl⟩ := Int.eq_ofNat_of_zero_le (show 0 ≤ n by omega)
        simp
      · obtain ⟨m, rfl⟩ := Int.eq_ofNat_of_zero_le (show 0 ≤ n by omega)
        simp only [Int.toNat_natCast]
        have := Nat.mod_lt (v * 256 + u) (show 0 < m by omega)
        omega

theorem once_any (w : World) (R : Nat) (a : Option Addr) (len cap : Nat) (h : Rd w R a len cap) (n : Int) (h1 : 1 ≤ n) (h2 : n ≤ 1073741824) :
    Calls Try.prog 40 #[.pointer (some ⟨R, 0, none⟩), .int .i64 n] w fun e w' => ∃ v : Bool, e = .returned (.bool v) ∧ Rd w' R a len cap ∧ w.grownBy w' (some R) := by
  have HR : Hid (Rd w R a len cap) := h
  clear h
  go_enter Try.func40, Try.ntmps40
  go_wp2_with fail
  refine (below_pos _ R a len cap HR.out n h1 h2).mono ?_
  rintro e w1 ⟨v, rfl, hv, hr1, hb1⟩
  have HR1 : Hid (Rd w1 R a len cap) := hr1
  clear hr1
  go_wp2
  go_ret
  exact ⟨_, rfl, HR1.out, hb1⟩

set_option maxHeartbeats 400000 in
theorem word_any (w : World) (R : Nat) (a : Option Addr) (len cap : Nat) (h : Rd w R a len cap) :
    Calls Try.prog 78 #[.pointer (some ⟨R, 0, none⟩)] w fun e w' => ∃ v : Nat, e = .returned (.int .u64 v) ∧ v < 18446744073709551616 ∧ Rd w' R a len cap ∧ w.grownBy w' (some R) := by
  have HR : Hid (Rd w R a len cap) := h
  clear h
  go_enter Try.func78, Try.ntmps78
  go_wp2
  go_loopw [3, 4] (fun n i wr => ∃ k m : Nat, k ≤ 8 ∧ i = .int .i64 k ∧ n = .int .u64 m ∧ m < 256 ^ k ∧ Rd wr R a len cap ∧ w.grownBy wr (some R)) (fun _ i _ => 8 - (intOf i).toNat)
  case atStart => exact ⟨0, 0, Nat.zero_le _, rfl, rfl, by decide, HR.out, grefl _ _⟩
  case round =>
    obtain ⟨k, m, hk, rfl, rfl, hm, hr, hb⟩ := hrel
    have HRr : Hid (Rd wr R a len cap) := hr
    have HB : Hid (w.grownBy wr (some R)) := hb
    have HP : Hid (m < 256 ^ k) := hm
    clear hr hb hm
    by_cases hlt : k < 8
    · have hm7 : m < 72057594037927936 := Nat.lt_of_lt_of_le HP.out (Nat.le_trans (Nat.pow_le_pow_right (by decide) (show k ≤ 7 by omega)) (by decide))
      go_wp2_with fail
      refine (next_any _ R a len cap HRr.out).mono ?_
      rintro e w1 ⟨v, rfl, hv, hr1, hb1⟩
      have HR1 : Hid (Rd w1 R a len cap) := hr1
      clear hr1
      go_wp2
      refine ⟨⟨k + 1, m * 256 + v, by omega, by go_num, by rw [shl_or_plain m v hm7 hv], ?_, HR1.out, gtrans HB.out hb1⟩, by simp [intOf]; omega⟩
      have := HP.out
      rw [Nat.pow_succ]
      omega
    · go_wp2
      go_ret
      refine ⟨m, rfl, ?_, HRr.out, HB.out⟩
      have h8 : k = 8 := by omega
      have := HP.out
      rw [h8] at this
      simpa using this
end Go.Proofs.Ytjdlphebnhkghaa.rd
