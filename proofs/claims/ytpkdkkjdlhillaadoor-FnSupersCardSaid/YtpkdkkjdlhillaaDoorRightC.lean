/-
  Drawn types and configs are right.
-/
import Derived.Test.YtpkdkkjdlhillaaDoorDrawC
import Derived.Test.YtpkdkkjdlhillaaDoorSuper
namespace Go.Proofs.YtpkdkkjdlhillaaDoor.rd
open Go.RowKit
open txt ints kinds

theorem all_push {s : ByteArray} {b : UInt8} (h : s.data.toList.all isKind = true) (hb : isKind b = true) : (s ++ (⟨#[b]⟩ : ByteArray)).data.toList.all isKind = true := by
  rw [ByteArray.data_append, Array.toList_append, List.all_append, h]
  show (true && (isKind b && true)) = true
  rw [hb]
  rfl
theorem type_mk {s : ByteArray} (h1 : 1 ≤ s.size) (h2 : s.size ≤ 23) (h : s.data.toList.all isKind = true) : isType s = true := by
  unfold isType
  rw [decide_eq_true h1, decide_eq_true h2, h]
  rfl
theorem conf_mk {n1 n2 n3 : Int} {xs : List ByteArray} (h1 : 8 ≤ n1) (h2 : n1 ≤ 128) (h3 : 1 ≤ n2) (h4 : n2 ≤ 32) (h5 : n2 ≤ n1 - 5) (h6 : 2 ≤ n3) (h7 : n3 ≤ 400) (h8 : 1 ≤ xs.length) (h9 : xs.length ≤ 12) (h : ∀ x ∈ xs, isType x = true) : configOk n1 n2 n3 xs = true := by
  unfold configOk typesOk
  simp only [Bool.and_eq_true, decide_eq_true_eq, List.all_eq_true]
  exact ⟨⟨⟨⟨h1, h2⟩, h3, h4, h5⟩, h6, h7⟩, ⟨h8, h9⟩, h⟩
set_option maxHeartbeats 2000000 in
theorem kinds_right (w : World) (R : Nat) (a : Option Addr) (len cap : Nat) (h : Rd w R a len cap) (most : Nat) (h1 : 1 ≤ most) (h2 : most ≤ 1000) :
    Calls Tryd.prog 70 #[.pointer (some ⟨R, 0, none⟩), .int .i64 (most : Int)] w fun e w' => ∃ s : ByteArray, e = .returned (.string s) ∧ 1 ≤ s.size ∧ s.size ≤ most ∧ s.data.toList.all isKind = true ∧ Rd w' R a len cap ∧ w.grownBy w' (some R) := by
  have HR : Hid (Rd w R a len cap) := h
  clear h
  go_enter Tryd.func70, Tryd.ntmps70
  go_wp2_with fail
  refine (below_pos _ R a len cap HR.out (most : Int) (by omega) (by omega)).mono ?_
  rintro e w1 ⟨v, rfl, hv, hr1, hb1⟩
  have HR1 : Hid (Rd w1 R a len cap) := hr1
  have HG1 : Hid (w.grownBy w1 (some R)) := hb1
  clear hr1 hb1
  go_wp2
  go_loopw [5, 6] (fun t i wr => ∃ (s : ByteArray) (k : Nat), t = .string s ∧ i = .int .i64 (k : Int) ∧ s.size + k = v + 1 ∧ s.data.toList.all isKind = true ∧ Rd wr R a len cap ∧ w.grownBy wr (some R)) (fun _ i _ => (intOf i).toNat)
  case atStart => exact ⟨⟨#[]⟩, v + 1, rfl, by go_num, by show 0 + (v + 1) = v + 1; omega, rfl, HR1.out, HG1.out⟩
  case round =>
    obtain ⟨s, k, rfl, rfl, hsk, hal, hrr, hgr⟩ := hrel
    have HAL : Hid (s.data.toList.all isKind = true) := hal
    have HRr : Hid (Rd wr R a len cap) := hrr
    have HGr : Hid (w.grownBy wr (some R)) := hgr
    clear hrr hgr hal
    by_cases hk : 0 < k
    · have hki : (0 : Int) < (k : Int) := by omega
      go_wp2_with fail
      refine (below_pos _ R a len cap (HRr.out.alloc _) 2 (by omega) (by omega)).mono ?_
      rintro e w2 ⟨u, rfl, hu, hr2, hb2⟩
      have HR2 : Hid (Rd w2 R a len cap) := hr2
      have hsz := HRr.out.size
      have hne : some wr.heap.size ≠ some R := by simp; omega
      have c0 := hb2.cell (a := ⟨wr.heap.size, 0, none⟩) (by rw [World.cell?_alloc_new]; rfl) hne
      have c1 := hb2.cell (a := ⟨wr.heap.size, 1, none⟩) (by rw [World.cell?_alloc_new]; rfl) hne
      have HG : Hid (w.grownBy w2 (some R)) := gtrans (galloc HGr.out _) hb2
      clear hr2 hb2 hsz hne
      have hs1 : s.size + 1 ≤ 2000 := by omega
      have hcase : u = 0 ∨ u = 1 := by omega
      rcases hcase with rfl | rfl
      all_goals
        go_wp2
        go_roundw
        case rel => exact ⟨_, k - 1, rfl, by go_num, by rw [ByteArray.size_append]; show s.size + 1 + (k - 1) = v + 1; omega, all_push HAL.out (by rfl), HR2.out, HG.out⟩
        case measure => simp [intOf]; omega
    · have hk0 : k = 0 := by omega
      subst hk0
      go_wp2
      go_ret
      exact ⟨s, rfl, by omega, by omega, HAL.out, HRr.out, HGr.out⟩
set_option maxHeartbeats 2000000 in
set_option maxRecDepth 20000 in
theorem types_right (w : World) (R : Nat) (a : Option Addr) (len cap : Nat) (h : Rd w R a len cap) :
    Calls Tryd.prog 58 #[.pointer (some ⟨R, 0, none⟩)] w fun e w' => ∃ v : Value, e = .returned v ∧ ∃ xs : List ByteArray, 1 ≤ xs.length ∧ xs.length ≤ 3 ∧ (∀ x ∈ xs, isType x = true) ∧ w'.ownsRow w.heap.size 9 1 v xs.length (xs.map Value.string) ∧ Rd w' R a len cap ∧ w.grownBy w' (some R) := by
  have HR : Hid (Rd w R a len cap) := h
  have hRsz := h.size
  have HRS : Hid (R < w.heap.size) := hRsz
  clear h
  go_enter Tryd.func58, Tryd.ntmps58
  go_wp2_with fail
  refine (below_pos _ R a len cap (HR.out.alloc _) 4 (by omega) (by omega)).mono ?_
  rintro e w1 ⟨u, rfl, hu, hr1, hb1⟩
  have hne : some w.heap.size ≠ some R := by simp; omega
  have hc : ∃ s : ByteArray, isType s = true ∧ w1.cell? ⟨w.heap.size, u, none⟩ = some (.string s) := by
    have hcase : u = 0 ∨ u = 1 ∨ u = 2 ∨ u = 3 := by omega
    rcases hcase with rfl | rfl | rfl | rfl
    all_goals
      refine ⟨_, ?_, hb1.cell (a := ⟨w.heap.size, _, none⟩) (by rw [World.cell?_alloc_new]; rfl) hne⟩
      rfl
  obtain ⟨s, hs3, c0⟩ := hc
  have HR1 : Hid (Rd w1 R a len cap) := hr1
  have HG1 : Hid (w.grownBy w1 (some R)) := gtrans (galloc (grefl _ _) _) hb1
  obtain ⟨X, hX⟩ : ∃ X, X = w1.alloc (.cells #[.string s] 9) := ⟨_, rfl⟩
  have HX : Hid (X = w1.alloc (.cells #[.string s] 9)) := hX
  have HO1 : Hid (X.ownsRow w.heap.size 9 1 (.slice (some ⟨w1.heap.size, 0, none⟩) 1 1) ([s] : List ByteArray).length (([s] : List ByteArray).map Value.string)) := by
    have h1 := World.ownsRow_lit (base := w.heap.size) (e := 9) (size := 1) w1 #[.string s] 1 HG1.out.size (by unfold maxLen; omega) rfl
    rw [hX]
    exact h1
  have HRX : Hid (Rd X R a len cap) := by
    have h1 : Rd X R a len cap := by rw [hX]; exact hr1.alloc _
    exact h1
  have HGX : Hid (w.grownBy X (some R)) := by
    have h1 : w.grownBy X (some R) := by rw [hX]; exact galloc HG1.out _
    exact h1
  have HS3 : Hid (isType s = true) := hs3
  have hui : (u : Int) < 4 := hu
  obtain ⟨xb, hxb⟩ : ∃ x, x = w1.heap.size := ⟨_, rfl⟩
  have HXB : Hid (xb = w1.heap.size) := hxb
  rw [← hxb] at HO1
  clear hr1 hb1 hX hne hs3 hxb
  go_wp2_with (rw [← HX.out, ← HXB.out])
  refine (below_pos _ R a len cap HRX.out 3 (by omega) (by omega)).mono ?_
  rintro e w2 ⟨n0, rfl, hn0, hr2, hb2⟩
  have HR2 : Hid (Rd w2 R a len cap) := hr2
  have HG2 : Hid (w.grownBy w2 (some R)) := gtrans HGX.out hb2
  have HO2 : Hid (w2.ownsRow w.heap.size 9 1 (.slice (some ⟨xb, 0, none⟩) 1 1) ([s] : List ByteArray).length (([s] : List ByteArray).map Value.string)) := own_rdT HO1.out hb2 HRS.out
  clear hr2 hb2 c0
  go_wp2
  go_loopw [3, 4] (fun o i wr => ∃ (n : Nat) (xs : List ByteArray), i = .int .i64 (n : Int) ∧ n ≤ 3 ∧ xs.length + n ≤ 3 ∧ 1 ≤ xs.length ∧ (∀ x ∈ xs, isType x = true) ∧ wr.ownsRow w.heap.size 9 1 o xs.length (xs.map Value.string) ∧ Rd wr R a len cap ∧ w.grownBy wr (some R)) (fun _ i _ => (intOf i).toNat)
  case atStart => exact ⟨n0, [s], rfl, by omega, by simp; omega, by simp, fun x hx => by simp at hx; rw [hx]; exact HS3.out, HO2.out, HR2.out, HG2.out⟩
  case round =>
    obtain ⟨n, xs, rfl, hn, hxn, hx1, hxs, hown, hr, hg⟩ := hrel
    have HRr : Hid (Rd wr R a len cap) := hr
    have HGr : Hid (w.grownBy wr (some R)) := hg
    have HOr : Hid (wr.ownsRow w.heap.size 9 1 u3 xs.length (xs.map Value.string)) := hown
    have HXS : Hid (∀ x ∈ xs, isType x = true) := hxs
    have HX1 : Hid (1 ≤ xs.length) := hx1
    clear hr hg hown hn0 hxs hx1
    by_cases hlt : 0 < n
    · have hlti : (0 : Int) < (n : Int) := by omega
      obtain ⟨m, rfl⟩ : ∃ m, n = m + 1 := ⟨n - 1, by omega⟩
      have HXN : Hid (xs.length + (m + 1) ≤ 3) := hxn
      have HM : Hid (m ≤ 3) := by show m ≤ 3; omega
      clear hxn
      go_wp2_with fail
      refine (once_any _ R a len cap HRr.out 4 (by omega) (by omega)).mono ?_
      rintro e w3 ⟨q, rfl, hr3, hb3⟩
      have HR3 : Hid (Rd w3 R a len cap) := hr3
      have HG3 : Hid (w.grownBy w3 (some R)) := gtrans HGr.out hb3
      have HO3 : Hid (w3.ownsRow w.heap.size 9 1 u3 xs.length (xs.map Value.string)) := own_rdT HOr.out hb3 HRS.out
      clear hr3 hb3
      have HKI : Hid (∀ most : Nat, 1 ≤ most → most ≤ 23 → Calls _ _ _ w3 _) := fun most q1 q2 => kinds_right w3 R a len cap HR3.out most q1 (by omega)
      cases q with
      | true =>
        have HK2 : Hid (Calls _ _ _ w3 _) := HKI.out 23 (by omega) (by omega)
        go_wp2_with fail
        refine HK2.out.mono ?_
        rintro e w4 ⟨t, rfl, ht1, ht, hta, hr4, hb4⟩
        have HR4 : Hid (Rd w4 R a len cap) := hr4
        have HG4 : Hid (w.grownBy w4 (some R)) := gtrans HG3.out hb4
        have HO4 : Hid (w4.ownsRow w.heap.size 9 1 u3 xs.length (xs.map Value.string)) := own_rdT HO3.out hb4 HRS.out
        have HT : Hid (∀ x ∈ xs ++ [t], isType x = true) := fun x hx => by
          rcases List.mem_append.1 hx with h | h
          · exact HXS.out x h
          · simp at h; rw [h]; exact type_mk ht1 (by omega) hta
        clear hr4 hb4 ht ht1 hta
        go_wp2_with (refine wpList_pushT w4 (by rfl) _ _ (by rfl) w.heap.size u3 xs t HO4.out (by rfl) (by rfl) (by have := HXN.out; omega) HG4.out.size ?_; intro g cp w5 hown5 hb5 hs5; have HO5 : Hid (w5.ownsRow w.heap.size 9 1 (.slice (some ⟨g, 0, none⟩) (xs.length + 1) cp) (xs ++ [t]).length ((xs ++ [t]).map Value.string)) := hown5; have HR5 : Hid (Rd w5 R a len cap) := HR4.out.above (hb5.mono (by have := HRS.out; omega)); have HG5 : Hid (w.grownBy w5 (some R)) := gBt HG4.out hb5; clear hown5 hb5 hs5)
        go_roundw
        case rel => exact ⟨m, xs ++ [t], by go_num, HM.out, by have := HXN.out; simp; omega, by simp, HT.out, HO5.out, HR5.out, HG5.out⟩
        case measure => simp [intOf]
      | false =>
        have HK2 : Hid (Calls _ _ _ w3 _) := HKI.out 5 (by omega) (by omega)
        go_wp2_with fail
        refine HK2.out.mono ?_
        rintro e w4 ⟨t, rfl, ht1, ht, hta, hr4, hb4⟩
        have HR4 : Hid (Rd w4 R a len cap) := hr4
        have HG4 : Hid (w.grownBy w4 (some R)) := gtrans HG3.out hb4
        have HO4 : Hid (w4.ownsRow w.heap.size 9 1 u3 xs.length (xs.map Value.string)) := own_rdT HO3.out hb4 HRS.out
        have HT : Hid (∀ x ∈ xs ++ [t], isType x = true) := fun x hx => by
          rcases List.mem_append.1 hx with h | h
          · exact HXS.out x h
          · simp at h; rw [h]; exact type_mk ht1 (by omega) hta
        clear hr4 hb4 ht ht1 hta
        go_wp2_with (refine wpList_pushT w4 (by rfl) _ _ (by rfl) w.heap.size u3 xs t HO4.out (by rfl) (by rfl) (by have := HXN.out; omega) HG4.out.size ?_; intro g cp w5 hown5 hb5 hs5; have HO5 : Hid (w5.ownsRow w.heap.size 9 1 (.slice (some ⟨g, 0, none⟩) (xs.length + 1) cp) (xs ++ [t]).length ((xs ++ [t]).map Value.string)) := hown5; have HR5 : Hid (Rd w5 R a len cap) := HR4.out.above (hb5.mono (by have := HRS.out; omega)); have HG5 : Hid (w.grownBy w5 (some R)) := gBt HG4.out hb5; clear hown5 hb5 hs5)
        go_roundw
        case rel => exact ⟨m, xs ++ [t], by go_num, HM.out, by have := HXN.out; simp; omega, by simp, HT.out, HO5.out, HR5.out, HG5.out⟩
        case measure => simp [intOf]
    · have hge : ¬ (0 : Int) < (n : Int) := by omega
      have HX3 : Hid (xs.length ≤ 3) := by show xs.length ≤ 3; omega
      clear hxn hn hlt
      go_wp2
      go_ret
      exact ⟨_, rfl, xs, HX1.out, HX3.out, HXS.out, HOr.out, HRr.out, HGr.out⟩
/-- A right config. -/
def CfgRight (w : World) (R : Nat) (a : Option Addr) (len cap : Nat) (e : Ending) (w' : World) : Prop :=
  ∃ (n1 n2 n3 : Int) (v : Value), e = .returned (.agg #[.int .i64 n1, .int .i64 n2, .int .i64 n3, v]) ∧ ∃ xs : List ByteArray, configOk n1 n2 n3 xs = true ∧ 1 ≤ xs.length ∧ xs.length ≤ 3 ∧ w'.ownsRow w.heap.size 9 1 v xs.length (xs.map Value.string) ∧ Rd w' R a len cap ∧ w.grownBy w' (some R)
set_option maxHeartbeats 2000000 in
set_option maxRecDepth 20000 in
theorem config_right (w : World) (R : Nat) (a : Option Addr) (len cap : Nat) (h : Rd w R a len cap) :
    Calls Tryd.prog 32 #[.pointer (some ⟨R, 0, none⟩)] w fun e w' => CfgRight w R a len cap e w' ∧ w.grownBy w' (some R) := by
  have HR : Hid (Rd w R a len cap) := h
  have hRsz := h.size
  have HRS : Hid (R < w.heap.size) := hRsz
  clear h hRsz
  obtain ⟨V, hV⟩ : ∃ V, V = w.alloc (.cells #[.int .i64 0, .int .i64 0, .int .i64 0, .slice none 0 0] 26) := ⟨_, rfl⟩
  have HV : Hid (V = w.alloc (.cells #[.int .i64 0, .int .i64 0, .int .i64 0, .slice none 0 0] 26)) := hV
  have HVS : Hid (V.heap.size = w.heap.size + 1) := by show V.heap.size = _; rw [hV]; simp
  have HVR : Hid (Rd V R a len cap) := by
    have h1 : Rd V R a len cap := by rw [hV]; exact HR.out.alloc _
    exact h1
  have HVG : Hid (w.grownBy V (some R)) := by
    have h1 : w.grownBy V (some R) := by rw [hV]; exact galloc (grefl _ _) _
    exact h1
  have HVC : Hid (∀ i, i < 4 → (∃ v, V.cell? ⟨w.heap.size, i, none⟩ = some v) ∧ V.frozen? ⟨w.heap.size, i, none⟩ = false) := fun i hi => by
    rw [hV]
    refine ⟨?_, World.frozen?_alloc_new _ _ _ _⟩
    rw [World.cell?_alloc_new]
    match i, hi with
    | 0, _ => exact ⟨_, rfl⟩
    | 1, _ => exact ⟨_, rfl⟩
    | 2, _ => exact ⟨_, rfl⟩
    | 3, _ => exact ⟨_, rfl⟩
  have HVF : Hid (∀ i, V.frozen? ⟨w.heap.size, i, none⟩ = false) := fun i => by rw [hV]; exact World.frozen?_alloc_new _ _ _ _
  clear hV
  go_enter Tryd.func32, Tryd.ntmps32
  go_wp2_with fail
  rw [← HV.out]
  refine (below_pos _ R a len cap HVR.out 10 (by omega) (by omega)).mono ?_
  rintro e w1 ⟨u1, rfl, hu1, hr1, hb1⟩
  have HR1 : Hid (Rd w1 R a len cap) := hr1
  have HG1 : Hid (V.grownBy w1 (some R)) := hb1
  clear hr1 hb1
  go_wp2_with fail
  refine (below_pos _ R a len cap HR1.out 40 (by omega) (by omega)).mono ?_
  rintro e w2 ⟨u2, rfl, hu2, hr2, hb2⟩
  have HR2 : Hid (Rd w2 R a len cap) := hr2
  have HG2 : Hid (V.grownBy w2 (some R)) := gtrans HG1.out hb2
  clear hr2 hb2
  go_wp2_with fail
  refine (types_right _ R a len cap HR2.out).mono ?_
  rintro e w3 ⟨v, rfl, xs, hx1, hx3, hxs, hown, hr3, hb3⟩
  have HG3 : Hid (V.grownBy w3 (some R)) := gtrans HG2.out hb3
  have hown2 := own_mono hown HG2.out.size
  have hob : v.ownBlock ≠ some w3.heap.size := fun e => by have := (hown.lt _ e).2; omega
  obtain ⟨av, gv, cv, rfl, hgv, _⟩ := txts_of_row hown
  have HXS : Hid (1 ≤ xs.length ∧ xs.length ≤ 3 ∧ ∀ x ∈ xs, isType x = true) := ⟨hx1, hx3, hxs⟩
  obtain ⟨nx, hnx⟩ : ∃ n, n = xs.length := ⟨_, rfl⟩
  have HNX : Hid (xs.length = nx) := hnx.symm
  rw [← hnx]
  obtain ⟨n2, hn2⟩ : ∃ n : Int, n = 1 + (u1 : Int) := ⟨_, rfl⟩
  obtain ⟨n3, hn3⟩ : ∃ n : Int, n = 4 + (u2 : Int) := ⟨_, rfl⟩
  obtain ⟨C, hC⟩ : ∃ C, C = w3.alloc (.cells #[.int .i64 0, .int .i64 n2, .int .i64 n3, .slice av nx cv] 26) := ⟨_, rfl⟩
  have HC : Hid (C = w3.alloc (.cells #[.int .i64 0, .int .i64 n2, .int .i64 n3, .slice av nx cv] 26)) := hC
  obtain ⟨cb, hcb⟩ : ∃ c, c = w3.heap.size := ⟨_, rfl⟩
  have HCB : Hid (cb = w3.heap.size) := hcb
  have HCF : Hid (Cfg w R w.heap.size cb a len cap 0 n2 n3 (.slice av nx cv) xs C) := by
    have hblk := HG3.out.block w.heap.size (by rw [HVS.out]; omega) (fun e => by have := Option.some.inj e; have := HRS.out; omega)
    have hlt3 : w.heap.size < w3.heap.size := by have h1 := HG3.out.size; rw [HVS.out] at h1; omega
    have hba : Below w3.heap.size w3 C := by rw [hC]; exact (Below.refl _ _).alloc (Nat.le_refl _) _
    have cell : ∀ i v, #[Value.int .i64 0, .int .i64 n2, .int .i64 n3, .slice av nx cv][i]? = some v → C.cell? ⟨w3.heap.size, i, none⟩ = some v := fun i v q => by rw [hC, World.cell?_alloc_new]; exact q
    have hRW : R < w.heap.size := HRS.out
    refine ⟨by rw [hcb]; exact cell 0 _ rfl, by rw [hcb]; exact cell 1 _ rfl, by rw [hcb]; exact cell 2 _ rfl, by rw [hcb]; exact cell 3 _ rfl, fun i => by rw [hcb, hC]; exact World.frozen?_alloc_new _ _ _ _, fun i hi => ?_, fun i => ?_, ?_, by rw [hcb, hnx]; exact hob, by rw [hC]; exact hr3.alloc _, by rw [hC]; exact galloc (gtrans HVG.out HG3.out) _, Nat.le_refl _, by omega⟩
    · obtain ⟨v, hv⟩ := (HVC.out i hi).1
      exact ⟨v, by rw [hba.cell (p := ⟨w.heap.size, i, none⟩) hlt3, World.cell?_of_block (a := ⟨w.heap.size, i, none⟩) hblk]; exact hv⟩
    · rw [hba.frozen (p := ⟨w.heap.size, i, none⟩) hlt3, World.frozen?_of_block (a := ⟨w.heap.size, i, none⟩) hblk]
      exact HVF.out i
    · have h5 := own_below hown2 hba
      rw [HVS.out] at h5
      rw [hnx]
      exact h5
  have HN2 : Hid (1 + (u1 : Int) = n2) := hn2.symm
  have HN3 : Hid (4 + (u2 : Int) = n3) := hn3.symm
  have hb2 : 1 ≤ n2 ∧ n2 ≤ 10 := by omega
  have hb3 : 4 ≤ n3 ∧ n3 ≤ 43 := by omega
  obtain ⟨hb21, hb22⟩ := hb2
  have HB3 : Hid (4 ≤ n3 ∧ n3 ≤ 43) := hb3
  clear hC hcb hn2 hn3 hnx hown hown2 hob hgv hr3 hx1 hx3 hxs hb3 HR1 HR2 HG1 HG2 HVC HVF
  have hCd : Cfg w R w.heap.size cb a len cap 0 n2 n3 (.slice av nx cv) xs C.drew := HCF.out.drawn HRS.out (gdraws (grefl _ _) 1) (HCF.out.rd.draws 1)
  go_wp2_with fail
  rw [HN2.out, HN3.out, ← HC.out, ← HCB.out]
  go_region_held3 (fun w' => w'.cell? ⟨cb, 1, none⟩ = some (.int .i64 n2)) (first | with_reducible exact hCd.c1 | with_reducible exact (hCd.put0 HRS.out _).c1)
    (first | (go_at_call 33; refine (below_pos _ R a len cap hCd.rd 14 (by omega) (by omega)).mono ?_; rintro e wB ⟨u3, rfl, hu3, hrB, hbB⟩; have hC2 := hCd.drawn HRS.out hbB hrB; clear hCd hrB hbB; have hCd := hC2; clear hC2; have k0 := hCd.c0; have kf := hCd.fr 0))
  all_goals
    have hw1 : IntKind.i64.wrap (4 + n2) = 4 + n2 := by rw [IntKind.wrap_i64]; omega
    have hw2 : IntKind.i64.wrap (4 + (u3 : Int)) = 4 + (u3 : Int) := by rw [IntKind.wrap_i64]; omega
    have hw3 : IntKind.i64.wrap (4 + n2 + (4 + (u3 : Int))) = 4 + n2 + (4 + (u3 : Int)) := by rw [IntKind.wrap_i64]; omega
    rw [hw1, hw2, hw3]
    obtain ⟨n1, hn1⟩ : ∃ n : Int, n = 4 + n2 + (4 + (u3 : Int)) := ⟨_, rfl⟩
    rw [← hn1]
    have hn10 : 9 ≤ n1 := by omega
    have hn11 : n1 ≤ 40 := by omega
    have HN12 : Hid (n2 + 8 ≤ n1) := by show n2 + 8 ≤ n1; omega
    have hC4 := hCd.put0 HRS.out n1
    obtain ⟨D, hD⟩ : ∃ D, D = wB.setCell ⟨cb, 0, none⟩ (.int .i64 n1) := ⟨_, rfl⟩
    rw [← hD] at hC4 ⊢
    have HC4 : Hid (Cfg w R w.heap.size cb a len cap n1 n2 n3 (.slice av nx cv) xs D) := hC4
    clear hCd hC4 hD hw1 hw2 hw3 hn1 k0 kf hu3
    obtain ⟨hb31, hb32⟩ := HB3.out
    go_wp2_with fail
    refine (once_any _ R a len cap HC4.out.rd 3 (by omega) (by omega)).mono ?_
    rintro e w5 ⟨q, rfl, hr5, hb5⟩
    have HC5 : Hid (Cfg w R w.heap.size cb a len cap n1 n2 n3 (.slice av nx cv) xs w5) := HC4.out.drawn HRS.out hb5 hr5
    clear hr5 hb5
    cases q with
    | false =>
      have HC9 : Hid (Cfg w R w.heap.size cb a len cap n1 n2 n3 (.slice av nx cv) xs w5) := HC5.out
      have hC9 := HC9.out
      obtain ⟨⟨v0, e0⟩, ⟨v1, e1⟩, ⟨v2, e2⟩, ⟨v3, e3⟩⟩ := And.intro (hC9.r 0 (by decide)) (And.intro (hC9.r 1 (by decide)) (And.intro (hC9.r 2 (by decide)) (hC9.r 3 (by decide))))
      have f0 := hC9.rf 0
      have f1 := hC9.rf 1
      have f2 := hC9.rf 2
      have f3 := hC9.rf 3
      have g0 := hC9.c0
      have g1 := hC9.c1
      have g2 := hC9.c2
      have g3 := hC9.c3
      clear hC9
      have HD : Hid (_ ∧ _ ∧ _) := HC9.out.done HRS.out (.int .i64 n1) (.int .i64 n2) (.int .i64 n3) (.slice av nx cv)
      have HQ : Hid (_ ∧ _ ∧ _ ∧ _) := got4 HC9.out.r (.int .i64 n1) (.int .i64 n2) (.int .i64 n3) (.slice av nx cv)
      go_wp2
      refine bodyPost_ret (v := .agg #[.int .i64 n1, .int .i64 n2, .int .i64 n3, .slice av nx cv]) ?_ rfl ⟨⟨n1, n2, n3, .slice av nx cv, rfl, xs, conf_mk (by omega) (by omega) (by omega) (by omega) (by have := HN12.out; omega) (by omega) (by omega) HXS.out.1 (by have := HXS.out.2.1; omega) HXS.out.2.2, HXS.out.1, HXS.out.2.1, HD.out.1, HD.out.2.1, HD.out.2.2⟩, HD.out.2.2⟩
      obtain ⟨q0, q1, q2, q3⟩ := HQ.out
      unfold put4 at q0 q1 q2 q3
      simp [results, Tryd.results32, go_sem, q0, q1, q2, q3]
    | true =>
      have k0 := HC5.out.c0
      have kf := HC5.out.fr 0
      have hmn : n1 + 40 ≤ 128 := by omega
      have HC6 : Hid (Cfg w R w.heap.size cb a len cap (n1 + 40) n2 n3 (.slice av nx cv) xs (w5.setCell ⟨cb, 0, none⟩ (.int .i64 (n1 + 40)))) := HC5.out.put0 HRS.out (n1 + 40)
      go_wp2_with fail
      refine (below_pos _ R a len cap HC6.out.rd 200 (by omega) (by omega)).mono ?_
      rintro e w6 ⟨u4, rfl, hu4, hr6, hb6⟩
      have hC7 := HC6.out.drawn HRS.out hb6 hr6
      have j2 := hC7.c2
      have jf2 := hC7.fr 2
      have hC8 := hC7.put2 HRS.out (4 + (u4 : Int))
      have j1 := hC8.c1
      have jf1 := hC8.fr 1
      have HC8 : Hid (Cfg w R w.heap.size cb a len cap (n1 + 40) n2 (4 + (u4 : Int)) (.slice av nx cv) xs (w6.setCell ⟨cb, 2, none⟩ (.int .i64 (4 + (u4 : Int))))) := hC8
      have HC9 : Hid (Cfg w R w.heap.size cb a len cap (n1 + 40) 10 (4 + (u4 : Int)) (.slice av nx cv) xs ((w6.setCell ⟨cb, 2, none⟩ (.int .i64 (4 + (u4 : Int)))).setCell ⟨cb, 1, none⟩ (.int .i64 10))) := hC8.put1 HRS.out 10
      clear hr6 hb6 hC7 hC8 k0 kf
      have hC9 := HC9.out
      obtain ⟨⟨v0, e0⟩, ⟨v1, e1⟩, ⟨v2, e2⟩, ⟨v3, e3⟩⟩ := And.intro (hC9.r 0 (by decide)) (And.intro (hC9.r 1 (by decide)) (And.intro (hC9.r 2 (by decide)) (hC9.r 3 (by decide))))
      have f0 := hC9.rf 0
      have f1 := hC9.rf 1
      have f2 := hC9.rf 2
      have f3 := hC9.rf 3
      have g0 := hC9.c0
      have g1 := hC9.c1
      have g2 := hC9.c2
      have g3 := hC9.c3
      clear hC9
      have HD : Hid (_ ∧ _ ∧ _) := HC9.out.done HRS.out (.int .i64 (n1 + 40)) (.int .i64 10) (.int .i64 (4 + (u4 : Int))) (.slice av nx cv)
      have HQ : Hid (_ ∧ _ ∧ _ ∧ _) := got4 HC9.out.r (.int .i64 (n1 + 40)) (.int .i64 10) (.int .i64 (4 + (u4 : Int))) (.slice av nx cv)
      go_wp2
      refine bodyPost_ret (v := .agg #[.int .i64 (n1 + 40), .int .i64 10, .int .i64 (4 + (u4 : Int)), .slice av nx cv]) ?_ rfl ⟨⟨(n1 + 40), 10, (4 + (u4 : Int)), .slice av nx cv, rfl, xs, conf_mk (by omega) (by omega) (by omega) (by omega) (by omega) (by omega) (by omega) HXS.out.1 (by have := HXS.out.2.1; omega) HXS.out.2.2, HXS.out.1, HXS.out.2.1, HD.out.1, HD.out.2.1, HD.out.2.2⟩, HD.out.2.2⟩
      obtain ⟨q0, q1, q2, q3⟩ := HQ.out
      unfold put4 at q0 q1 q2 q3
      simp [results, Tryd.results32, go_sem, q0, q1, q2, q3]
end Go.Proofs.YtpkdkkjdlhillaaDoor.rd
