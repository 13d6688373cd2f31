/-
  A search among nodes: what it holds in memory, and one round of it, by the program.
-/
import Derived.Test.YthjfgibflbbgmaaGsLink2
namespace Go.Proofs.Ythjfgibflbbgmaa.gs
open Go.RowKit
open kinds ints obj ref gr cl

/-- A search in a block of its own: the nodes linked, those that were found told by their numbers and in a row. -/
structure Sr (xs : List ByteArray) (rs : List Int) (ns : List Nd) (bs : List Nat) (va : Nat → Value) (sh : List Nat) (B F sb : Nat) (vf : Value) (Q : List Int) (w : World) : Prop where
  inj : ∀ i j, i < bs.length → j < bs.length → bs.getD i 0 = bs.getD j 0 → i = j
  len : bs.length = ns.length
  shb : ∀ x ∈ bs, x ∈ sh
  shs : sb ∈ sh
  sbn : sb ∉ bs
  lob : ∀ x ∈ bs, B ≤ x ∧ x < F
  los : B ≤ sb ∧ sb < F
  siz : F ≤ w.heap.size
  at' : ∀ j (hj : j < ns.length), NodeC w (bs.getD j 0) ns[j].1 (va j) (numQ Q (j : Int))
  nm : ∀ j (hj : j < ns.length), ∃ a c, w.cell? ⟨bs.getD j 0, 2, none⟩ = some (.slice a (nmA xs ns[j]).length c) ∧ Still w bs sh B F a (nmA xs ns[j])
  s0 : ∃ a c, w.cell? ⟨sb, 0, none⟩ = some (.slice a rs.length c) ∧ Still w bs sh B F a rs
  s1 : ∃ a c, w.cell? ⟨sb, 1, none⟩ = some (.slice a ns.length c) ∧ Still w bs sh B F a (ones ns.length)
  s2 : w.cell? ⟨sb, 2, none⟩ = some vf
  sf : ∀ j, w.frozen? ⟨sb, j, none⟩ = false
  row : w.ownsRow F 63 1 vf Q.length (Q.map fun p => ptr (bs.getD p.toNat 0))
theorem Sr.keep {xs : List ByteArray} {rs : List Int} {ns : List Nd} {bs : List Nat} {va : Nat → Value} {sh : List Nat} {B F sb : Nat} {vf : Value} {Q : List Int} {w w' : World} (h : Sr xs rs ns bs va sh B F sb vf Q w) (hs : w.heap.size ≤ w'.heap.size) (hb : ∀ x ∈ bs, w'.heap[x]? = w.heap[x]?) (hsb : w'.heap[sb]? = w.heap[sb]?) (hk : Kp sh F w w') (hrow : w'.ownsRow F 63 1 vf Q.length (Q.map fun p => ptr (bs.getD p.toNat 0))) : Sr xs rs ns bs va sh B F sb vf Q w' := by
  refine ⟨h.inj, h.len, h.shb, h.shs, h.sbn, h.lob, h.los, Nat.le_trans h.siz hs, fun j hj => (h.at' j hj).of (hb _ (getD_mem (by rw [h.len]; exact hj))), fun j hj => ?_, ?_, ?_, by rw [World.cell?_of_block (a := ⟨sb, 2, none⟩) hsb]; exact h.s2, fun j => by rw [World.frozen?_of_block (a := ⟨sb, j, none⟩) hsb]; exact h.sf j, hrow⟩
  · obtain ⟨a, c, e, hst⟩ := h.nm j hj
    exact ⟨a, c, by rw [World.cell?_of_block (a := ⟨bs.getD j 0, 2, none⟩) (hb _ (getD_mem (by rw [h.len]; exact hj)))]; exact e, hst.kept hk⟩
  · obtain ⟨a, c, e, hst⟩ := h.s0
    exact ⟨a, c, by rw [World.cell?_of_block (a := ⟨sb, 0, none⟩) hsb]; exact e, hst.kept hk⟩
  · obtain ⟨a, c, e, hst⟩ := h.s1
    exact ⟨a, c, by rw [World.cell?_of_block (a := ⟨sb, 1, none⟩) hsb]; exact e, hst.kept hk⟩
theorem Sr.quiet {xs : List ByteArray} {rs : List Int} {ns : List Nd} {bs : List Nat} {va : Nat → Value} {sh : List Nat} {B F sb : Nat} {vf : Value} {Q : List Int} {w w' : World} (h : Sr xs rs ns bs va sh B F sb vf Q w) (hb : Below w.heap.size w w') : Sr xs rs ns bs va sh B F sb vf Q w' :=
  h.keep hb.size (fun x hx => hb.block x (Nat.lt_of_lt_of_le (h.lob x hx).2 h.siz)) (hb.block sb (Nat.lt_of_lt_of_le h.los.2 h.siz)) ⟨hb.size, fun k hk _ => hb.block k (Nat.lt_of_lt_of_le hk h.siz)⟩ (row_kept h.row (grown_below none hb) (fun _ _ _ q => by cases q))
/-- A cell below all that is the search's own. -/
theorem Sr.low {xs : List ByteArray} {rs : List Int} {ns : List Nd} {bs : List Nat} {va : Nat → Value} {sh : List Nat} {B F sb : Nat} {vf : Value} {Q : List Int} {w : World} (h : Sr xs rs ns bs va sh B F sb vf Q w) {r : Nat} (hr : r < B) (j : Nat) (x : Value) : Sr xs rs ns bs va sh B F sb vf Q (w.setCell ⟨r, j, none⟩ x) := by
  have ho : ∀ k, B ≤ k → (w.setCell ⟨r, j, none⟩ x).heap[k]? = w.heap[k]? := fun k hk => Below.heap_setCell w ⟨r, j, none⟩ x k (fun e => by have e2 : k = r := e; omega)
  have hbs : ∀ j, j < ns.length → B ≤ bs.getD j 0 := fun j hj => (h.lob _ (getD_mem (by rw [h.len]; exact hj))).1
  have hlF := h.los
  refine ⟨h.inj, h.len, h.shb, h.shs, h.sbn, h.lob, h.los, by simp; exact h.siz, fun j hj => (h.at' j hj).of (ho _ (hbs j hj)), fun j hj => ?_, ?_, ?_, by rw [World.cell?_of_block (a := ⟨sb, 2, none⟩) (ho sb h.los.1)]; exact h.s2, fun j => by rw [World.frozen?_setCell]; exact h.sf j, row_kept h.row (grown_set _ _ _ _) (fun k q q1 q2 => by injection q2 with q2; have := (h.row.lt k q1).1; omega)⟩
  · obtain ⟨a, c, e, hst⟩ := h.nm j hj
    exact ⟨a, c, by rw [World.cell?_of_block (a := ⟨bs.getD j 0, 2, none⟩) (ho _ (hbs j hj))]; exact e, hst.low hr _ _⟩
  · obtain ⟨a, c, e, hst⟩ := h.s0
    exact ⟨a, c, by rw [World.cell?_of_block (a := ⟨sb, 0, none⟩) (ho sb h.los.1)]; exact e, hst.low hr _ _⟩
  · obtain ⟨a, c, e, hst⟩ := h.s1
    exact ⟨a, c, by rw [World.cell?_of_block (a := ⟨sb, 1, none⟩) (ho sb h.los.1)]; exact e, hst.low hr _ _⟩
/-- One node more is found. -/
theorem Sr.step {xs : List ByteArray} {rs : List Int} {ns : List Nd} {bs : List Nat} {va : Nat → Value} {sh : List Nat} {B F sb : Nat} {vf vg : Value} {Q : List Int} {w w6 : World} (h : Sr xs rs ns bs va sh B F sb vf Q w) {m : Nat} (hm : m < ns.length) (hq : ¬ (m : Int) ∈ Q) (hg : w.grownBy w6 vf.ownBlock) (hrow : w6.ownsRow F 63 1 vg (Q.length + 1) ((Q.map fun p => ptr (bs.getD p.toNat 0)) ++ [ptr (bs.getD m 0)])) {y : Int} (hy : y = (Q.length : Int) + 1) :
    Sr xs rs ns bs va sh B F sb vg (Q ++ [(m : Int)]) ((w6.setCell ⟨sb, 2, none⟩ vg).setCell ⟨bs.getD m 0, 3, none⟩ (.int .i64 y)) ∧ Kp sh F w ((w6.setCell ⟨sb, 2, none⟩ vg).setCell ⟨bs.getD m 0, 3, none⟩ (.int .i64 y)) := by
  have hmb : m < bs.length := by rw [h.len]; exact hm
  have hmm := getD_mem hmb
  have hsz := h.siz
  have hk6 : ∀ k, k < F → w6.heap[k]? = w.heap[k]? := fun k hk => hg.block k (by omega) (fun q => by have := (h.row.lt k q.symm).1; omega)
  have hK6 : Kp sh F w w6 := ⟨hg.size, fun k hk _ => hk6 k hk⟩
  have hK : Kp sh F w ((w6.setCell ⟨sb, 2, none⟩ vg).setCell ⟨bs.getD m 0, 3, none⟩ (.int .i64 y)) := (hK6.trans (Kp.set sb 2 vg h.shs)).trans (Kp.set _ 3 _ (h.shb _ hmm))
  have hns : sb ≠ bs.getD m 0 := fun e => h.sbn (e ▸ hmm)
  have ho7 : ∀ k, k ≠ bs.getD m 0 → ((w6.setCell ⟨sb, 2, none⟩ vg).setCell ⟨bs.getD m 0, 3, none⟩ (.int .i64 y)).heap[k]? = (w6.setCell ⟨sb, 2, none⟩ vg).heap[k]? := fun k hk => Below.heap_setCell _ ⟨bs.getD m 0, 3, none⟩ _ k (fun e => hk (by rw [e]))
  have hos : ∀ k, k ≠ sb → (w6.setCell ⟨sb, 2, none⟩ vg).heap[k]? = w6.heap[k]? := fun k hk => Below.heap_setCell _ ⟨sb, 2, none⟩ _ k (fun e => hk (by rw [e]))
  have h6 : w6.cell? ⟨sb, 2, none⟩ = some vf := by rw [World.cell?_of_block (a := ⟨sb, 2, none⟩) (hk6 sb h.los.2)]; exact h.s2
  refine ⟨⟨h.inj, h.len, h.shb, h.shs, h.sbn, h.lob, h.los, by have := hg.size; simp; omega, fun j hj => ?_, fun j hj => ?_, ?_, ?_, ?_, fun j => ?_, ?_⟩, hK⟩
  · have hjb : j < bs.length := by rw [h.len]; exact hj
    have hjm := getD_mem hjb
    have hjs : bs.getD j 0 ≠ sb := fun e => h.sbn (e ▸ hjm)
    have h1 : NodeC (w6.setCell ⟨sb, 2, none⟩ vg) (bs.getD j 0) ns[j].1 (va j) (numQ Q (j : Int)) := (h.at' j hj).of ((hos _ hjs).trans (hk6 _ (h.lob _ hjm).2))
    rw [numQ_push hq]
    by_cases e : j = m
    · subst e
      rw [if_pos rfl, ← hy]
      exact h1.set3 y
    · rw [if_neg (by omega)]
      exact h1.of (ho7 _ (fun q => e (h.inj j m hjb hmb q)))
  · have hjb : j < bs.length := by rw [h.len]; exact hj
    have hjm := getD_mem hjb
    have hjs : bs.getD j 0 ≠ sb := fun e => h.sbn (e ▸ hjm)
    obtain ⟨a, c, e2, hst⟩ := h.nm j hj
    refine ⟨a, c, ?_, hst.kept hK⟩
    have h1 : (w6.setCell ⟨sb, 2, none⟩ vg).cell? ⟨bs.getD j 0, 2, none⟩ = some (.slice a (nmA xs ns[j]).length c) := by
      rw [World.cell?_of_block (a := ⟨bs.getD j 0, 2, none⟩) ((hos _ hjs).trans (hk6 _ (h.lob _ hjm).2))]; exact e2
    by_cases e : bs.getD j 0 = bs.getD m 0
    · rw [e] at h1 ⊢
      rw [World.cell?_setCell_other _ _ _ _ (off_ne (by decide))]; exact h1
    · rw [World.cell?_of_block (a := ⟨bs.getD j 0, 2, none⟩) (ho7 _ e)]; exact h1
  · obtain ⟨a, c, e, hst⟩ := h.s0
    refine ⟨a, c, ?_, hst.kept hK⟩
    rw [World.cell?_of_block (a := ⟨sb, 0, none⟩) (ho7 sb hns), World.cell?_setCell_other _ _ _ _ (off_ne (by decide)), World.cell?_of_block (a := ⟨sb, 0, none⟩) (hk6 sb h.los.2)]; exact e
  · obtain ⟨a, c, e, hst⟩ := h.s1
    refine ⟨a, c, ?_, hst.kept hK⟩
    rw [World.cell?_of_block (a := ⟨sb, 1, none⟩) (ho7 sb hns), World.cell?_setCell_other _ _ _ _ (off_ne (by decide)), World.cell?_of_block (a := ⟨sb, 1, none⟩) (hk6 sb h.los.2)]; exact e
  · rw [World.cell?_of_block (a := ⟨sb, 2, none⟩) (ho7 sb hns)]
    exact World.cell?_setCell_same _ _ _ h6
  · rw [World.frozen?_setCell, World.frozen?_setCell, World.frozen?_of_block (a := ⟨sb, j, none⟩) (hk6 sb h.los.2)]; exact h.sf j
  · have hF : ∀ k, vg.ownBlock = some k → F ≤ k := fun k q => (hrow.lt k q).1
    have hbF := (h.lob _ hmm).2
    have hsF := h.los.2
    have h1 := row_kept (row_kept hrow (grown_set w6 sb 2 vg) (fun k q q1 q2 => by injection q2 with q2; have := hF k q1; omega)) (grown_set _ (bs.getD m 0) 3 (.int .i64 y)) (fun k q q1 q2 => by injection q2 with q2; have := hF k q1; omega)
    rw [List.length_append, List.length_singleton, List.map_append]
    simpa using h1
theorem ptrOf_zero (bs : List Nat) {x : Int} (h : ¬ 0 < x) : ptrOf bs x = .pointer none := by unfold ptrOf; rw [if_neg h]
set_option maxHeartbeats 4000000 in
set_option maxRecDepth 20000 in
theorem find_any (w : World) (xs : List ByteArray) (rs : List Int) (ns : List Nd) (bs : List Nat) (va : Nat → Value) (sh : List Nat) (B F sb : Nat) (vf : Value) (Q : List Int) (hS : Sr xs rs ns bs va sh B F sb vf Q w) (hn4 : ns.length ≤ 400) (hQ : Q.Nodup) (hQg : ∀ p ∈ Q, GoodG ns.length p) (a : Option Addr) (n c : Nat) (L : List Int) (hx : L.length = n) (hn : n ≤ 1048576) (hL : Still w bs sh B F a L) (hin : allIn ns.length L = true) :
    Calls Try.prog 75 #[.pointer (some ⟨sb, 0, none⟩), .slice a n c] w fun e w' => ∃ vg, e = .returned (.tuple #[]) ∧ Sr xs rs ns bs va sh B F sb vg (findN Q (pl L)) w' ∧ Kp sh F w w' ∧ Below B w w' := by
  have HS0 : Hid (Sr xs rs ns bs va sh B F sb vf Q w) := hS
  have HLL : Hid (∀ w', Kp sh F w w' → Still w' bs sh B F a L) := fun w' h => hL.kept h
  have HX : Hid (L.length = n) := hx
  have HIN : Hid (∀ k (hk : k < L.length), 0 ≤ L[k] ∧ L[k] ≤ (ns.length : Int)) := fun k hk => allIn_at hin hk
  have HQL : Hid (∀ k, (findN Q (pl (L.take k))).length ≤ 400) := fun k => by
    have h1 := good_len (n := ns.length) (findN_nodup (xs := pl (L.take k)) hQ) (findN_sub hQg (fun r hr => pl_good hin r (pl_sub (fun y hy => List.mem_of_mem_take hy) r hr)))
    omega
  clear hS hL hx hin hQ hQg
  go_enter Try.func75, Try.ntmps75
  go_wp2
  go_loopw [8] (fun i wr => ∃ (k : Nat) (vg : Value), k ≤ n ∧ i = .int .i64 (k : Int) ∧ Sr xs rs ns bs va sh B F sb vg (findN Q (pl (L.take k))) wr ∧ Kp sh F w wr ∧ Below B w wr) (fun i _ => n - (intOf i).toNat)
  case atStart => exact ⟨0, vf, Nat.zero_le _, rfl, HS0.out, Kp.refl _ _ _, Below.refl _ _⟩
  case round =>
    clear HS0
    obtain ⟨k, vg, hk, rfl, hs, hkp, hb⟩ := hrel
    have HS : Hid (Sr xs rs ns bs va sh B F sb vg (findN Q (pl (L.take k))) wr) := hs
    have HK : Hid (Kp sh F w wr) := hkp
    have HB : Hid (Below B w wr) := hb
    clear hs hkp hb
    by_cases hlt : k < n
    · have hlti : (k : Int) < (n : Int) := by omega
      have hk0 : (0 : Int) ≤ (k : Int) := by omega
      have hkl : k < L.length := by have := HX.out; omega
      obtain ⟨g5, rfl, _, hg5, hg5s, e5⟩ := HLL.out wr HK.out k hkl
      obtain ⟨hx0, hxn⟩ := HIN.out k hkl
      have HTK : Hid (_ = _) := find_pl Q L k hkl
      have HQK : Hid ((findN Q (pl (L.take k))).length ≤ 400) := HQL.out k
      generalize findN Q (pl (L.take k)) = P at HS HTK HQK
      generalize L[k] = x at e5 hx0 hxn HTK
      by_cases hx : 0 < x
      · obtain ⟨m, rfl⟩ : ∃ m : Nat, x = (m : Int) + 1 := ⟨(x - 1).toNat, by omega⟩
        have hmn : m < ns.length := by omega
        rw [if_pos hx, show (m : Int) + 1 - 1 = (m : Int) by omega] at HTK
        rw [ptrOf_one] at e5
        have hmb : m < bs.length := by rw [HS.out.len]; exact hmn
        have hc3 := (HS.out.at' m hmn).c3
        have hf3 := (HS.out.at' m hmn).fz 3
        have hz := numQ_zero P (m : Int)
        have hs2 := HS.out.s2
        have hsf := HS.out.sf 2
        have HMN : Hid (m < ns.length) := hmn
        have HMB : Hid (m < bs.length) := hmb
        obtain ⟨mb, hmbe⟩ : ∃ b, b = bs.getD m 0 := ⟨_, rfl⟩
        have HMBE : Hid (mb = bs.getD m 0) := hmbe
        rw [← hmbe] at e5 hc3 hf3
        have e6 : wr.cell? ⟨g5, k, none⟩ = some (.pointer (some ⟨mb, 0, none⟩)) := e5
        clear e5 hx hx0 hxn hmn hmb hg5 hg5s hmbe
        by_cases hq : (m : Int) ∈ P
        · rw [decide_eq_true hq] at hz
          rw [pushN_in hq] at HTK
          generalize numQ P (m : Int) = nq at hc3 hz
          have hz2 : (nq == 0) = false := hz
          clear hq hz
          go_wp2
          go_roundw
          case rel => exact ⟨k + 1, vg, by omega, by go_num, by rw [HTK.out]; exact HS.out, HK.out, HB.out⟩
          case measure => simp [intOf]; omega
        · rw [decide_eq_false hq] at hz
          rw [pushN_out hq] at HTK
          have HQN : Hid (¬ (m : Int) ∈ P) := hq
          have hz2 : numQ P (m : Int) = 0 := by simpa using hz
          rw [hz2] at hc3
          have HC3 : Hid (wr.cell? ⟨mb, 3, none⟩ = some (.int .i64 0) ∧ wr.frozen? ⟨mb, 3, none⟩ = false) := ⟨hc3, hf3⟩
          have HS2 : Hid (wr.cell? ⟨sb, 2, none⟩ = some vg ∧ wr.frozen? ⟨sb, 2, none⟩ = false) := ⟨hs2, hsf⟩
          have HRW : Hid (wr.ownsRow F 63 1 vg P.length (P.map fun p => ptr (bs.getD p.toNat 0))) := HS.out.row
          have HPL : Hid (P.length ≤ 1048576) := by have := HQK.out; show P.length ≤ _; omega
          have HPQ : P.length ≤ 400 := HQK.out
          have HSF : Hid (F ≤ wr.heap.size) := HS.out.siz
          clear hq hz hz2
          go_wp2_with (first | (rw [← HX7.out]) | (refine wpList_pushP wr (by rfl) _ _ (by rfl) F vg P.length (P.map fun p => ptr (bs.getD p.toNat 0)) mb HRW.out (by rfl) (by rfl) HPL.out HSF.out ?_; intro g2 c2 w6 hown6 hg6 hb6 hat6; have hlo := HS.out.los; have hmF : B ≤ mb ∧ mb < F := HMBE.out ▸ HS.out.lob _ (getD_mem HMB.out); have hk6 : ∀ j, j < F → w6.heap[j]? = wr.heap[j]? := (fun j hj => hb6.block j hj); obtain ⟨d0, d1⟩ : w6.cell? ⟨sb, 2, none⟩ = some vg ∧ w6.frozen? ⟨sb, 2, none⟩ = false := ⟨(by rw [World.cell?_of_block (a := ⟨sb, 2, none⟩) (hk6 sb hlo.2)]; exact HS2.out.1), (by rw [World.frozen?_of_block (a := ⟨sb, 2, none⟩) (hk6 sb hlo.2)]; exact HS2.out.2)⟩; obtain ⟨X7, hX7⟩ : ∃ X, X = w6.setCell ⟨sb, 2, none⟩ (.slice (some ⟨g2, 0, none⟩) (P.length + 1) c2) := ⟨_, rfl⟩; have HX7 : Hid (X7 = w6.setCell ⟨sb, 2, none⟩ (.slice (some ⟨g2, 0, none⟩) (P.length + 1) c2)) := hX7; have hsm : sb ≠ mb := (fun e => HS.out.sbn (e ▸ HMBE.out ▸ getD_mem HMB.out)); have q2 : X7.cell? ⟨sb, 2, none⟩ = some (.slice (some ⟨g2, 0, none⟩) (P.length + 1) c2) := (by rw [hX7]; exact World.cell?_setCell_same _ _ _ d0); obtain ⟨q3, q4⟩ : X7.cell? ⟨mb, 3, none⟩ = some (.int .i64 0) ∧ X7.frozen? ⟨mb, 3, none⟩ = false := ⟨(by rw [hX7, World.cell?_setCell_other _ _ _ _ (blk_ne hsm), World.cell?_of_block (a := ⟨mb, 3, none⟩) (hk6 mb hmF.2)]; exact HC3.out.1), (by rw [hX7, World.frozen?_setCell, World.frozen?_of_block (a := ⟨mb, 3, none⟩) (hk6 mb hmF.2)]; exact HC3.out.2)⟩; have HST : Hid (∀ y : Int, y = (P.length : Int) + 1 → Sr xs rs ns bs va sh B F sb _ (P ++ [(m : Int)]) (X7.setCell ⟨mb, 3, none⟩ (.int .i64 y)) ∧ Kp sh F wr (X7.setCell ⟨mb, 3, none⟩ (.int .i64 y))) := (fun y hy => (by rw [hX7, HMBE.out]; exact HS.out.step HMN.out HQN.out hg6 (HMBE.out ▸ hown6) hy)); have HBT : Hid (∀ x, Below B w (X7.setCell ⟨mb, 3, none⟩ x)) := (fun x => (by rw [hX7]; exact (HB.out.trans ((hb6.mono (Nat.le_of_lt (Nat.lt_of_le_of_lt hlo.1 hlo.2))).setCell (p := ⟨sb, 2, none⟩) hlo.1 _)).setCell (p := ⟨mb, 3, none⟩) hmF.1 _)); clear hown6 hg6 hb6 hat6 hk6 hX7))
          go_roundw
          case rel =>
            obtain ⟨q1, q2⟩ := HST.out _ rfl
            exact ⟨k + 1, _, by omega, by go_num, by rw [HTK.out]; exact q1, HK.out.trans q2, HBT.out _⟩
          case measure => simp [intOf]; omega
      · obtain rfl : x = 0 := by omega
        rw [if_neg (by omega)] at HTK
        rw [ptrOf_zero bs (by omega)] at e5
        clear hx hx0 hxn hg5 hg5s
        go_wp2
        go_roundw
        case rel => exact ⟨k + 1, vg, by omega, by go_num, by rw [HTK.out]; exact HS.out, HK.out, HB.out⟩
        case measure => simp [intOf]; omega
    · obtain rfl : k = n := by omega
      have hs := HS.out
      rw [List.take_of_length_le (by have := HX.out; omega)] at hs
      have HSE : Hid (Sr xs rs ns bs va sh B F sb vg (findN Q (pl L)) wr) := hs
      clear hs
      go_wp2
      go_end0
      exact ⟨vg, rfl, HSE.out, HK.out, HB.out⟩
end Go.Proofs.Ythjfgibflbbgmaa.gs
