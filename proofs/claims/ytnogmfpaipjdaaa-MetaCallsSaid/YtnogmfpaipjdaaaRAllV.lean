/- Whether an item is on another one's way, as the document has it. No statement is proved here. All that is cached, in the items' order, as the document has it. No statement is proved here. Two rows of what is cached that are one, as the document compares them. No statement is proved here. The document's victim, and the program's: plain facts. No statement is proved here. The document's victim. No statement is proved here. -/
import Derived.Test.YtnogmfpaipjdaaaRPut
namespace Go.Proofs.Ytnogmfpaipjdaaa
open Go.RowKit
open P (Pl right hasI vals)
set_option maxRecDepth 20000
set_option linter.unusedVariables false
set_option linter.unusedSimpArgs false

theorem isIt_up {p : Pl} {x : It} (h : hasUp p x = true) : isIt p (upI p x) = true := by
  obtain ⟨hi, _, h2, e1, e2⟩ := hasUp_facts h
  obtain ⟨hr, k, j, h3, h4, h5, h6⟩ := P.hasI_facts hi
  have har := ((P.shaped_iff p).1 (P.right_facts hr).2.1).2.2.1
  have ha : p.ar = (p.ar.toNat : Int) := by omega
  have e3 : (upI p x).x = ((j / p.ar.toNat : Nat) : Int) := by rw [e2, h4, ha]; exact Int.ofNat_ediv_ofNat
  have e4 : (upI p x).l = ((k + 1 : Nat) : Int) := by rw [e1, h3]; rfl
  unfold isIt hasI
  rw [e3, e4, P.Wd_at p (k + 1) (by omega), hr]
  have : j / p.ar.toNat < P.wid p.pa.toNat p.ar.toNat (k + 1) := by
    show _ < P.up _ _
    unfold P.up
    have h7 : j / p.ar.toNat < j / p.ar.toNat + 1 := Nat.lt_succ_self _
    rw [← Nat.add_div_right j (by omega : 0 < p.ar.toNat)] at h7
    exact Nat.lt_of_lt_of_le h7 (Nat.div_le_div_right (by omega))
  rw [decide_eq_true (Int.natCast_nonneg _), decide_eq_true (Int.ofNat_lt.2 this)]
  rfl
theorem wayF_fuel {p : Pl} : ∀ (n n' : Nat) (z : It), Fuel p n z → Fuel p n' z → wayF p n z = wayF p n' z
  | n, n', z, h1, h2 => by
    cases hu : hasUp p z with
    | false => rw [wayF_none hu, wayF_none hu]
    | true =>
      obtain ⟨m, rfl, e1, f1⟩ := wayF_up hu h1
      obtain ⟨m', rfl, e2, f2⟩ := wayF_up hu h2
      rw [e1, e2, wayF_fuel m m' _ f1 f2]
theorem way_up {p : Pl} {y : It} (h : hasUp p y = true) : way p y = y :: way p (upI p y) := by
  obtain ⟨m, e, e1, f1⟩ := wayF_up h (fuel5 p y)
  unfold way
  rw [e1, wayF_fuel m 5 _ f1 (fuel5 p _)]
theorem wayF_lev {p : Pl} : ∀ (n : Nat) (z u : It), u ∈ wayF p n z → u = z ∨ z.l < u.l
  | 0, z, u, h => by simp only [wayF, List.mem_singleton] at h; exact .inl h
  | n + 1, z, u, h => by
    unfold wayF at h
    rcases List.mem_cons.1 h with h | h
    · exact .inl h
    · cases hu : hasUp p z with
      | false => rw [hu] at h; simp at h
      | true =>
        rw [hu, if_pos rfl] at h
        obtain ⟨_, _, _, e1, _⟩ := hasUp_facts hu
        rcases wayF_lev n _ u h with e | e
        · right; rw [e]; omega
        · right; omega
theorem on_end {p : Pl} {x y : It} (h : ¬ y.l < x.l) : decide (x ∈ way p y) = decide (x = y) := by
  have hy : y ∈ way p y := by unfold way wayF; exact List.mem_cons_self
  by_cases e : x = y
  · rw [e, decide_eq_true hy, decide_eq_true rfl]
  · rw [decide_eq_false e, decide_eq_false]
    intro hm
    rcases wayF_lev 5 y x hm with h1 | h1
    · exact e h1
    · exact h h1
theorem on_no {p : Pl} {x y : It} (h : isIt p y = false) : decide (x ∈ way p y) = decide (x = y) := by
  have hu : hasUp p y = false := by
    cases hq : hasUp p y with
    | false => rfl
    | true => rw [(hasUp_facts hq).1] at h; cases h
  unfold way
  rw [wayF_none hu]
  simp
theorem on_step {p : Pl} {x y : It} (hx : isIt p x = true) (hy : isIt p y = true) (h : y.l < x.l) : isIt p ⟨y.l + 1, y.x / p.ar⟩ = true ∧ decide (x ∈ way p y) = decide (x ∈ way p ⟨y.l + 1, y.x / p.ar⟩) := by
  obtain ⟨_, k, j, h1, h2, h3, _⟩ := P.hasI_facts hx
  have hu : hasUp p y = true := by
    unfold hasUp P.hasU
    rw [show hasI p y.l y.x = true from hy, decide_eq_false (by omega)]
    rfl
  obtain ⟨_, _, _, e1, e2⟩ := hasUp_facts hu
  have e : (⟨y.l + 1, y.x / p.ar⟩ : It) = upI p y := by rw [← e1, ← e2]
  rw [e]
  refine ⟨isIt_up hu, ?_⟩
  rw [way_up hu]
  have hne : x ≠ y := fun e => by rw [e] at h; omega
  simp only [List.mem_cons, hne, false_or]
def OnRel (W : World) (p : Pl) (x : It) (yb xb pb : Nat) (B : Bool) (f : Nat) (wr : World) : Prop :=
  ∃ y : It, St W wr [(yb, C 42 y.arr), (xb, C 42 x.arr), (pb, C 28 p.arr)] ∧ isIt p y = true ∧ decide (x ∈ way p y) = B ∧ (x.l - y.l).toNat ≤ f
attribute [local irreducible] It.arr Cd.arr way
set_option maxHeartbeats 8000000 in
theorem on_any {p : Pl} {x : It} (hx : isIt p x = true) (y : It) (W : World) :
    Calls Try.prog 40 #[.agg p.arr, .agg x.arr, .agg y.arr] W fun e W' => e = .returned (.bool (decide (x ∈ way p y))) ∧ Below W.heap.size W W' := by
  have hr := (P.hasI_facts hx).1
  have IT := Lib.hid (fun V => ritem_any hr y V)
  have S0 := St.nil W
  have OE := Lib.hid (fun z (h : ¬ z.l < x.l) => on_end (p := p) (x := x) (y := z) h)
  have ON := Lib.hid (fun (h : isIt p y = false) => on_no (x := x) h)
  have OS := Lib.hid (fun z (hz : isIt p z = true) (h : z.l < x.l) => on_step hx hz h)
  cases hi : isIt p y with
  | false =>
    rw [hi] at IT
    have e := Lib.hid (ON.out hi)
    have EQ := fun V => eql_it x y V
    rw [← e.out] at EQ
    generalize decide (x ∈ way p y) = B at *
    clear hi hx hr ON OE OS
    go_enter Try.func40, Try.ntmps40
    go_wp2_with (first
      | (refine wpList_box_st S0 28 _ rfl rfl p.arr rfl ?_; clear S0; intro W1 h1 _ _; replace h1 := h1.front; generalize W.heap.size = pb at h1)
      | (have _ := h1; refine wpList_box_it h1 x _ rfl rfl rfl ?_; clear h1; intro W2 h2 _; generalize W1.heap.size = xb at *)
      | (have _ := h2; refine wpList_box_it h2 y _ rfl rfl rfl ?_; clear h2; intro W3 h3 _; generalize W2.heap.size = yb at *; have q1 := load_plA (h3.get 2 rfl); have q2 : W3.rangeAt yb 0 (Elt.cs y) := at_it (h3.get 0 rfl))
      | (have _ := q1; refine wpList_load_run q1 _ rfl rfl rfl ?_; clear q1)
      | (have _ := q2; refine wpList_loadIt (e := y) q2 _ rfl rfl rfl ?_; clear q2)
      | (have _ := h3; go_at_call 34; refine (IT.out _).mono ?_; rintro e W4 ⟨rfl, hb⟩; have h4 := h3.call hb; clear h3 hb IT; have q3 : W4.rangeAt xb 0 (Elt.cs x) := at_it (h4.get 1 rfl); have q4 : W4.rangeAt yb 0 (Elt.cs y) := at_it (h4.get 0 rfl))
      | (have _ := q3; refine wpList_loadIt (e := x) q3 _ rfl rfl rfl ?_; clear q3)
      | (have _ := q4; refine wpList_loadIt (e := y) q4 _ rfl rfl rfl ?_; clear q4))
    go_ret
    exact ⟨rfl, h4.bel⟩
  | true =>
  rw [hi] at IT
  obtain ⟨B, hB⟩ : ∃ B, B = decide (x ∈ way p y) := ⟨_, rfl⟩
  rw [← hB]
  replace hB := Lib.hid hB.symm
  have HI := Lib.hid hi
  have HX := Lib.hid hx
  have HR := Lib.hid hr
  clear hi hx hr ON
  go_enter Try.func40, Try.ntmps40
  go_wp2_with (first
    | (refine wpList_box_st S0 28 _ rfl rfl p.arr rfl ?_; clear S0; intro W1 h1 _ _; replace h1 := h1.front; generalize hpb : W.heap.size = pb at h1)
    | (have _ := h1; refine wpList_box_it h1 x _ rfl rfl rfl ?_; clear h1; intro W2 h2 _; generalize W1.heap.size = xb at *)
    | (have _ := h2; refine wpList_box_it h2 y _ rfl rfl rfl ?_; clear h2; intro W3 h3 _; generalize W2.heap.size = yb at *; have q1 := load_plA (h3.get 2 rfl); have q2 : W3.rangeAt yb 0 (Elt.cs y) := at_it (h3.get 0 rfl))
    | (have _ := q1; refine wpList_load_run q1 _ rfl rfl rfl ?_; clear q1)
    | (have _ := q2; refine wpList_loadIt (e := y) q2 _ rfl rfl rfl ?_; clear q2)
    | (have _ := h3; go_at_call 34; refine (IT.out _).mono ?_; rintro e W4 ⟨rfl, hb⟩; have h4 := h3.call hb; clear h3 hb IT))
  go_loopg [] ((x.l - y.l).toNat) (fun f wr => OnRel W p x yb xb pb B f wr)
  case atStart => exact ⟨y, h4, HI.out, hB.out, Nat.le_refl _⟩
  case round =>
    obtain ⟨z, hst, hz, hzB, hf⟩ := hrel
    clear h4
    obtain ⟨_, k, j, hk, hj, hkl, hjw⟩ := P.hasI_facts hz
    obtain ⟨_, kx, jx, hkx, _, hkxl, _⟩ := P.hasI_facts HX.out
    have d0 : wr.cell? ⟨yb, 0, none⟩ = some (.int .i64 (k : Int)) := (hst.cell 0 rfl 0 _ z.at0).trans (by rw [hk])
    have d1 : wr.cell? ⟨yb, 1, none⟩ = some (.int .i64 (j : Int)) := (hst.cell 0 rfl 1 _ z.at1).trans (by rw [hj])
    have d2 : wr.cell? ⟨xb, 0, none⟩ = some (.int .i64 (kx : Int)) := (hst.cell 1 rfl 0 _ x.at0).trans (by rw [hkx])
    have har := ((P.shaped_iff p).1 (P.right_facts HR.out).2.1).2.2.1
    obtain ⟨a, ha⟩ : ∃ a : Nat, p.ar = (a : Int) := ⟨p.ar.toNat, by omega⟩
    have d3 : wr.cell? ⟨pb, 4, none⟩ = some (.int .i64 (a : Int)) := (hst.cell 2 rfl 4 _ p.at4).trans (by rw [ha])
    have L5 := P.Lv_le p
    by_cases hlt : (k : Int) < (kx : Int)
    · have g1 : ((k : Int) < (kx : Int)) = True := eq_true hlt
      have os := OS.out z hz (by rw [hk, hkx]; exact hlt)
      rw [ha, hk, hj] at os
      have OSh := Lib.hid os
      have hzk := Lib.hid (show z = ⟨(k : Int), (j : Int)⟩ by rw [← hk, ← hj])
      replace hzB := Lib.hid hzB
      have a1 : 1 ≤ a := by omega
      have q1 : (j : Int) / (a : Int) = ((j / a : Nat) : Int) := Int.ofNat_ediv_ofNat
      have q2 : j / a ≤ j := Nat.div_le_self _ _
      have jw : j < 4096 := by
        have tf := P.tree_facts (n := p.pa.toNat) (a := p.ar.toNat) (by have := ((P.shaped_iff p).1 (P.right_facts HR.out).2.1).1; omega) (by have := ((P.shaped_iff p).1 (P.right_facts HR.out).2.1).1; omega) (by omega) (by omega)
        have := (tf.2.2 k (by have e : P.Lv p = P.lev p.pa.toNat p.ar.toNat := (by unfold P.Lv; first | rfl | rw [if_pos (P.right_facts HR.out).2.1]); omega)).2.1
        omega
      have q5 : 0 ≤ (j : Int) / (a : Int) := Int.ediv_nonneg (by omega) (by omega)
      have q6 : (j : Int) / (a : Int) ≤ (j : Int) := by rw [q1]; exact_mod_cast q2
      have w1 : IntKind.i64.wrap ((k : Int) + 1) = (k : Int) + 1 := IntWalk.i64_in _ (by omega)
      have w2 : IntKind.i64.wrap ((j : Int) / (a : Int)) = (j : Int) / (a : Int) := IntWalk.i64_in _ (by omega)
      have w3 : ((a : Int) = 0) = False := eq_false (by omega)
      have w4 : (a = 0) = False := eq_false (by omega)
      have w5 : ((a : Int) == 0) = false := by simp; omega
      have MS := Lib.hid (show (x.l - ((k : Int) + 1)).toNat < gk by omega)
      have HS0 := Lib.hid hst.drew
      have H0 := Lib.hid (show wr.drew.cell? ⟨yb, 0, none⟩ = some (.int .i64 (k : Int)) ∧ wr.drew.cell? ⟨yb, 1, none⟩ = some (.int .i64 (j : Int)) ∧ wr.drew.cell? ⟨pb, 4, none⟩ = some (.int .i64 (a : Int)) from ⟨d0, d1, d3⟩)
      clear hst q1 q2 q5 q6 jw a1 L5 har hjw hz hk hj hkx hkxl hkl hlt hf
      go_wp2
      clear d0 d1 d2 d3
      refine wp_region_last (fun W => W.cell? ⟨yb, 0, none⟩ = some (.int .i64 (k : Int)) ∧ W.cell? ⟨yb, 1, none⟩ = some (.int .i64 (j : Int)) ∧ W.cell? ⟨pb, 4, none⟩ = some (.int .i64 (a : Int))) 9 (by kernel_rfl) ?_
      generalize World.drew _ = V0 at *
      refine AnyT.take (i := 0) (v := .pointer (some ⟨yb, 0, none⟩)) rfl (by kernel_rfl) (by kernel_rfl) (by kernel_rfl) (by kernel_rfl) (by decide) (fun _ _ _ h => h) (Or.inl ⟨by rfl, fun W hW => by clear hW; go_simp⟩) H0.out ?_
      try simp only [Act.put, List.getElem_toArray, List.getElem_cons_succ, List.getElem_cons_zero, List.setIfInBounds_toArray, List.set_cons_zero, List.set_cons_succ]
      refine AnyT.take (i := 1) (v := .int .i64 (k : Int)) rfl (by kernel_rfl) (by kernel_rfl) (by kernel_rfl) (by kernel_rfl) (by decide) (fun _ _ _ h => h) (Or.inl ⟨by rfl, fun W hW => by have hc := (show W.cell? ⟨yb, 0, none⟩ = some (.int .i64 (k : Int)) from hW.1); clear hW; go_simp⟩) H0.out ?_
      try simp only [Act.put, List.getElem_toArray, List.getElem_cons_succ, List.getElem_cons_zero, List.setIfInBounds_toArray, List.set_cons_zero, List.set_cons_succ]
      refine AnyT.take (i := 2) (v := .int .i64 ((k : Int) + 1)) rfl (by kernel_rfl) (by kernel_rfl) (by kernel_rfl) (by kernel_rfl) (by decide) (fun _ _ _ h => h) (Or.inl ⟨by rfl, fun W hW => by clear hW; go_simp⟩) H0.out ?_
      try simp only [Act.put, List.getElem_toArray, List.getElem_cons_succ, List.getElem_cons_zero, List.setIfInBounds_toArray, List.set_cons_zero, List.set_cons_succ]
      refine AnyT.take (i := 3) (v := .pointer (some ⟨yb, 1, none⟩)) rfl (by kernel_rfl) (by kernel_rfl) (by kernel_rfl) (by kernel_rfl) (by decide) (fun _ _ _ h => h) (Or.inl ⟨by rfl, fun W hW => by clear hW; go_simp⟩) H0.out ?_
      try simp only [Act.put, List.getElem_toArray, List.getElem_cons_succ, List.getElem_cons_zero, List.setIfInBounds_toArray, List.set_cons_zero, List.set_cons_succ]
      refine AnyT.take (i := 4) (v := .int .i64 (j : Int)) rfl (by kernel_rfl) (by kernel_rfl) (by kernel_rfl) (by kernel_rfl) (by decide) (fun _ _ _ h => h) (Or.inl ⟨by rfl, fun W hW => by have hc := (show W.cell? ⟨yb, 1, none⟩ = some (.int .i64 (j : Int)) from hW.2.1); clear hW; go_simp⟩) H0.out ?_
      try simp only [Act.put, List.getElem_toArray, List.getElem_cons_succ, List.getElem_cons_zero, List.setIfInBounds_toArray, List.set_cons_zero, List.set_cons_succ]
      refine AnyT.take (i := 5) (v := .pointer (some ⟨pb, 4, none⟩)) rfl (by kernel_rfl) (by kernel_rfl) (by kernel_rfl) (by kernel_rfl) (by decide) (fun _ _ _ h => h) (Or.inl ⟨by rfl, fun W hW => by clear hW; go_simp⟩) H0.out ?_
      try simp only [Act.put, List.getElem_toArray, List.getElem_cons_succ, List.getElem_cons_zero, List.setIfInBounds_toArray, List.set_cons_zero, List.set_cons_succ]
      refine AnyT.take (i := 6) (v := .int .i64 (a : Int)) rfl (by kernel_rfl) (by kernel_rfl) (by kernel_rfl) (by kernel_rfl) (by decide) (fun _ _ _ h => h) (Or.inl ⟨by rfl, fun W hW => by have hc := (show W.cell? ⟨pb, 4, none⟩ = some (.int .i64 (a : Int)) from hW.2.2); clear hW; go_simp⟩) H0.out ?_
      try simp only [Act.put, List.getElem_toArray, List.getElem_cons_succ, List.getElem_cons_zero, List.setIfInBounds_toArray, List.set_cons_zero, List.set_cons_succ]
      refine AnyT.take (i := 7) (v := .int .i64 ((j : Int) / (a : Int))) rfl (by kernel_rfl) (by kernel_rfl) (by kernel_rfl) (by kernel_rfl) (by decide) (fun _ _ _ h => h) (Or.inl ⟨by rfl, fun W hW => by clear hW; go_simp⟩) H0.out ?_
      try simp only [Act.put, List.getElem_toArray, List.getElem_cons_succ, List.getElem_cons_zero, List.setIfInBounds_toArray, List.set_cons_zero, List.set_cons_succ]
      refine AnyT.take (i := 8) (v := .agg #[.int .i64 ((k : Int) + 1), .int .i64 ((j : Int) / (a : Int))]) rfl (by kernel_rfl) (by kernel_rfl) (by kernel_rfl) (by kernel_rfl) (by decide) (fun _ _ _ h => h) (Or.inl ⟨by rfl, fun W hW => by clear hW; go_simp⟩) H0.out ?_
      try simp only [Act.put, List.getElem_toArray, List.getElem_cons_succ, List.getElem_cons_zero, List.setIfInBounds_toArray, List.set_cons_zero, List.set_cons_succ]
      refine AnyT.one (i := 9) (by kernel_rfl) rfl (fun K hK => ?_)
      rw [if_pos (by rfl)]
      refine wp_store_itO HS0.out 0 (⟨(k : Int) + 1, (j : Int) / (a : Int)⟩ : It) rfl (.tmp 5) (.tmp 27) rfl rfl (by first | rfl | (simp only [It.arr]; rfl)) ?_
      intro V1 hs1
      have HS1 := Lib.hid hs1
      clear hs1
      refine hK.out _ _ (fun h => absurd rfl h) ?_
      clear hK K
      try simp only [Act.put, List.getElem_toArray, List.getElem_cons_succ, List.getElem_cons_zero, List.setIfInBounds_toArray, List.set_cons_zero, List.set_cons_succ]
      refine AnyT.done (by kernel_rfl) ?_ _
      go_wp2
      go_roundg ((x.l - ((k : Int) + 1)).toNat)
      case measure => exact MS.out
      case rel => exact ⟨_, HS1.out, OSh.out.1, OSh.out.2.symm.trans hzB.out, Nat.le_refl _⟩
    · have g1 : ((k : Int) < (kx : Int)) = False := eq_false hlt
      have e := OE.out z (by rw [hk, hkx]; omega)
      rw [hzB] at e
      have EQ := fun V => eql_it x z V
      rw [← e] at EQ
      have q3 : wr.rangeAt xb 0 (Elt.cs x) := at_it (hst.get 1 rfl)
      have q4 : wr.rangeAt yb 0 (Elt.cs z) := at_it (hst.get 0 rfl)
      clear e hlt hf
      go_wp2_with (first
        | (have _ := q3; refine wpList_loadIt (e := x) q3 _ rfl rfl rfl ?_; clear q3)
        | (have _ := q4; refine wpList_loadIt (e := z) q4 _ rfl rfl rfl ?_; clear q4))
      go_ret
      exact ⟨rfl, hst.bel⟩
end Go.Proofs.Ytnogmfpaipjdaaa
namespace Go.Proofs.Ytnogmfpaipjdaaa
open Go.RowKit
open P (Pl right hasI vals)
set_option maxRecDepth 20000
set_option linter.unusedVariables false
set_option linter.unusedSimpArgs false

theorem built42K (a b : Int) : Try.prog.built 42 [(0, .int .i64 a), (1, .int .i64 b)] = some (It.arr ⟨a, b⟩) := by kernel_rfl
def bef (y : It) (lv ix : Nat) : Prop := y.l < (lv : Int) ∨ (y.l = (lv : Int) ∧ y.x < (ix : Int))
def AIv (l : List Cd) (lv ix : Nat) (xs : List Cd) : Prop := (∀ c, c ∈ xs ↔ c ∈ l ∧ bef c.it lv ix) ∧ xs.Pairwise (fun a b => ltI a.it b.it) ∧ xs.length ≤ lv * 16 + ix
theorem AIv.zero {p : Pl} {l : List Cd} (I : Inv p l) : AIv l 0 0 [] := by
  refine ⟨fun c => ⟨fun h => (by cases h), fun h => ?_⟩, List.Pairwise.nil, by simp⟩
  obtain ⟨_, k, j, h1, h2, _⟩ := P.hasI_facts (I.it c h.1)
  rcases h.2 with h3 | h3 <;> omega
theorem AIv.none {l xs : List Cd} {lv ix : Nat} (h : AIv l lv ix xs) (hf : findC l ⟨(lv : Int), (ix : Int)⟩ = none) : AIv l lv (ix + 1) xs := by
  refine ⟨fun c => ?_, h.2.1, by have := h.2.2; omega⟩
  rw [h.1 c]
  constructor
  · rintro ⟨h1, h2⟩
    refine ⟨h1, ?_⟩
    rcases h2 with h2 | h2
    · exact .inl h2
    · exact .inr ⟨h2.1, by omega⟩
  · rintro ⟨h1, h2⟩
    refine ⟨h1, ?_⟩
    rcases h2 with h2 | h2
    · exact .inl h2
    · by_cases e : c.it.x = (ix : Int)
      · exact absurd (show c.it = ⟨(lv : Int), (ix : Int)⟩ by rw [← h2.1, ← e]) (findC_none.1 hf c h1)
      · exact .inr ⟨h2.1, by omega⟩
theorem AIv.some {p : Pl} {l xs : List Cd} {lv ix : Nat} {d : Cd} (I : Inv p l) (h : AIv l lv ix xs) (hf : findC l ⟨(lv : Int), (ix : Int)⟩ = some d) : AIv l lv (ix + 1) (xs ++ [d]) := by
  obtain ⟨hd, he⟩ := findC_some hf
  refine ⟨fun c => ?_, ?_, by have := h.2.2; simp; omega⟩
  · rw [List.mem_append, h.1 c, List.mem_singleton]
    constructor
    · rintro (⟨h1, h2⟩ | rfl)
      · refine ⟨h1, ?_⟩
        rcases h2 with h2 | h2
        · exact .inl h2
        · exact .inr ⟨h2.1, by omega⟩
      · exact ⟨hd, .inr (by rw [he]; exact ⟨rfl, by simp only; omega⟩)⟩
    · rintro ⟨h1, h2⟩
      rcases h2 with h2 | h2
      · exact .inl ⟨h1, .inl h2⟩
      · by_cases e : c.it.x = (ix : Int)
        · right
          exact nd_eq I.nd h1 hd (by rw [he, ← h2.1, ← e])
        · exact .inl ⟨h1, .inr ⟨h2.1, by omega⟩⟩
  · rw [List.pairwise_append]
    refine ⟨h.2.1, List.pairwise_singleton _ _, fun a ha b hb => ?_⟩
    rw [List.mem_singleton] at hb
    subst hb
    have := ((h.1 a).1 ha).2
    rw [he]
    unfold bef at this
    unfold ltI
    exact this
theorem AIv.next {p : Pl} {l xs : List Cd} {lv m : Nat} (I : Inv p l) (hm : P.Wd p (lv : Int) = m) (h16 : m ≤ 16) (h : AIv l lv m xs) : AIv l (lv + 1) 0 xs := by
  refine ⟨fun c => ?_, h.2.1, by have := h.2.2; omega⟩
  rw [h.1 c]
  refine and_congr_right fun h1 => ?_
  have hx : c.it.x < (P.Wd p c.it.l : Int) := by
    have := I.it c h1
    unfold isIt hasI at this
    simp only [Bool.and_eq_true, decide_eq_true_eq] at this
    exact this.2.2
  unfold bef
  constructor
  · rintro (h2 | h2) <;> left <;> omega
  · rintro (h2 | h2)
    · by_cases e : c.it.l = (lv : Int)
      · right
        rw [e, hm] at hx
        exact ⟨e, hx⟩
      · left; omega
    · obtain ⟨_, k, j, h3, h4, _⟩ := P.hasI_facts (I.it c h1)
      omega
theorem AIv.all {p : Pl} {l xs : List Cd} (I : Inv p l) (h : AIv l 16 0 xs) : IsAll l xs := by
  refine ⟨?_, h.2.1⟩
  have n1 : xs.Nodup := h.2.1.imp fun {a b} hab e => by rw [e] at hab; unfold ltI at hab; omega
  have n2 : l.Nodup := by
    have := I.nd
    rw [List.nodup_iff_pairwise_ne, List.pairwise_map] at this
    rw [List.nodup_iff_pairwise_ne]
    exact this.imp fun hab e => hab (by rw [e])
  refine (List.perm_ext_iff_of_nodup n1 n2).2 fun c => ?_
  rw [h.1 c]
  refine ⟨fun h => h.1, fun h1 => ⟨h1, .inl ?_⟩⟩
  obtain ⟨_, k, j, h3, h4, h5, _⟩ := P.hasI_facts (I.it c h1)
  have := P.Lv_le p
  omega
theorem Wd16 {p : Pl} (hp : right p = true) (lv : Int) : P.Wd p lv ≤ 16 := by
  by_cases h : 0 ≤ lv ∧ lv < (P.Lv p : Int)
  · obtain ⟨k, rfl⟩ : ∃ k : Nat, lv = (k : Int) := ⟨lv.toNat, by omega⟩
    rw [P.Wd_at p k (by omega)]
    have sh := (P.shaped_iff p).1 (P.right_facts hp).2.1
    have tf := P.tree_facts (n := p.pa.toNat) (a := p.ar.toNat) (by omega) (by omega) (by omega) (by omega)
    exact (tf.2.2 k (by have e : P.Lv p = P.lev p.pa.toNat p.ar.toNat := (by unfold P.Lv; first | rfl | rw [if_pos (P.right_facts hp).2.1]); omega)).2.1
  · unfold P.Wd
    rw [if_neg h]
    omega
def AoRel (W : World) (l : List Cd) (v i : Value) (wr : World) : Prop :=
  ∃ lv : Nat, lv ≤ 16 ∧ i = .int .i64 (lv : Nat) ∧ ∃ xs N, RL v xs N ∧ St W wr N ∧ AIv l lv 0 xs
def AiRel (W : World) (l : List Cd) (lv m : Nat) (v i : Value) (wr : World) : Prop :=
  ∃ ix : Nat, ix ≤ m ∧ i = .int .i64 (ix : Nat) ∧ ∃ xs N, RL v xs N ∧ St W wr N ∧ AIv l lv ix xs
attribute [local irreducible] It.arr Cd.arr
section
variable {w W W' : World} {r : Nat} {p : Pl} {l : List Cd} {L M : Blks}
set_option maxHeartbeats 8000000 in
theorem rall_any (h : RC w W r p l L) (I : Inv p l) :
    Calls Try.prog 25 #[.pointer (some ⟨r, 0, none⟩)] W fun e W' => ∃ v N ys, e = .returned v ∧ RL v ys N ∧ IsAll l ys ∧ St W W' N := by
  have RV := Lib.hid (fun V N (hs : St W V N) => (h.call hs.bel : RC w V r p l L))
  have WD := Lib.hid (fun (lv : Nat) V => P.refWidth_any p (lv : Int) V)
  have FI := Lib.hid (fun V L x (h : RC w V r p l L) => rfind_any h x)
  have W6 := Lib.hid (fun (lv : Nat) => Wd16 I.rt (lv : Int))
  have A0 := Lib.hid (AIv.zero I)
  have AN := Lib.hid (fun lv ix xs h hf => AIv.none (l := l) (lv := lv) (ix := ix) (xs := xs) h hf)
  have AS := Lib.hid (fun lv ix xs d h hf => AIv.some (l := l) (lv := lv) (ix := ix) (xs := xs) (d := d) I h hf)
  have AX := Lib.hid (fun lv m xs hm h16 h => AIv.next (l := l) (lv := lv) (m := m) (xs := xs) I hm h16 h)
  have AA := Lib.hid (fun xs h => AIv.all (l := l) (xs := xs) I h)
  have S0 := St.nil W
  clear h I
  go_enter Try.func25, Try.ntmps25
  go_wp2_with (refine wpList_build0_st (α := Cd) S0 rfl rfl ?_; clear S0; intro W1 v1 N1 hv1 hN1 h1 _; subst hv1; rw [List.append_nil] at h1)
  go_loopw [3, 4] (AoRel W l) (fun _ i _ => 16 - (intOf i).toNat)
  case atStart => exact ⟨0, by omega, rfl, [], N1, hN1, h1, A0.out⟩
  case round =>
    obtain ⟨lv, hlv, rfl, xs, N, hN, hst, hA⟩ := hrel
    clear hN1 h1
    by_cases hlt : lv < 16
    · have g1 : ((lv : Int) < 16) = True := eq_true (by omega)
      obtain ⟨m, hm⟩ : ∃ m, P.Wd p (lv : Int) = m := ⟨_, rfl⟩
      have W16 := W6.out lv
      have WL := Lib.hid (WD.out lv)
      rw [hm] at WL W16
      replace hm := Lib.hid hm
      replace hA := Lib.hid hA
      go_wp2
      go_loopw [3, 5] (AiRel W l lv m) (fun _ i _ => m - (intOf i).toNat)
      case atStart => exact ⟨0, by omega, rfl, xs, N, hN, hst, hA.out⟩
      case round =>
        obtain ⟨ix, hix, rfl, ys, N2, hN2, hs2, hA2⟩ := hrel
        clear hN hst hA
        have q1 := load_pl (RV.out _ _ hs2).plan
        by_cases hxt : ix < m
        · have g2 : ((ix : Int) < (m : Int)) = True := eq_true (by omega)
          have LE := Lib.hid (show ys.length + 1 ≤ 100000 by have := hA2.2.2; omega)
          rcases fI_spec l ⟨(lv : Int), (ix : Int)⟩ with ⟨hf, ei⟩ | ⟨k, d, hf, hk, ei⟩
          · have FX := Lib.hid (fun V L (h : RC w V r p l L) => FI.out V L ⟨(lv : Int), (ix : Int)⟩ h)
            rw [ei] at FX
            have hA3 := Lib.hid (AN.out _ _ _ hA2 hf)
            clear hA2 ei hf
            go_wp2_with (first
              | (have _ := q1; refine wpList_load_run q1 _ rfl rfl rfl ?_; clear q1)
              | (have _ := hs2; go_at_call 47; refine (WL.out _).mono ?_; rintro e W3 ⟨rfl, hb⟩; have h3 := hs2.call hb; clear hs2 hb)
              | (have _ := h3; refine wpList_build_aq 42 _ rfl rfl (It.arr ⟨(lv : Int), (ix : Int)⟩) (by exact built42K _ _) ?_)
              | (have _ := h3; go_at_call 20; refine (FX.out _ _ (RV.out _ _ h3)).mono ?_; rintro e W4 ⟨rfl, hb⟩; have h4 := h3.call hb; clear h3 hb FX))
            go_roundw
            case rel => exact ⟨ix + 1, by omega, by go_num, ys, N2, hN2, h4, hA3.out⟩
            case measure => simp [intOf]; omega
          · have FX := Lib.hid (fun V L (h : RC w V r p l L) => FI.out V L ⟨(lv : Int), (ix : Int)⟩ h)
            rw [ei] at FX
            have hA3 := Lib.hid (AS.out _ _ _ _ hA2 hf)
            have b1 : k < l.length := (List.getElem?_eq_some_iff.1 hk).1
            have q2 : ((k : Int) ≥ 0) = True := eq_true (by omega)
            have q3 : (0 ≤ (k : Int)) = True := eq_true (by omega)
            replace hk := Lib.hid hk
            clear hA2 ei hf
            go_wp2_with (first
              | (have _ := q1; refine wpList_load_run q1 _ rfl rfl rfl ?_; clear q1)
              | (have _ := hs2; go_at_call 47; refine (WL.out _).mono ?_; rintro e W3 ⟨rfl, hb⟩; have h3 := hs2.call hb; clear hs2 hb)
              | (have _ := h3; refine wpList_build_aq 42 _ rfl rfl (It.arr ⟨(lv : Int), (ix : Int)⟩) (by exact built42K _ _) ?_)
              | (have _ := h3; go_at_call 20; refine (FX.out _ _ (RV.out _ _ h3)).mono ?_; rintro e W4 ⟨rfl, hb⟩; have h4 := h3.call hb; clear h3 hb FX; obtain ⟨A1, c1, d46, hr1⟩ := (RV.out _ _ h4).row; obtain ⟨bb, o, rfl, _, rg⟩ := hr1.at_ k d hk.out; have rg : W4.rangeAt bb (o + k * 36) (Elt.cs d) := rg; clear hr1)
              | (have _ := rg; refine wpList_loadCd (e := d) rg _ rfl rfl rfl ?_; clear rg)
              | (have _ := h4; refine wpList_build1_st h4 _ d rfl rfl (by exact (Cd.arr_eq d).symm) ?_; clear h4 d46; intro W5 h5; have hr5 : ERow W5 W5.heap.size (some ⟨W4.heap.size, 0, none⟩) 1 1 [d] := new_row h5; replace h5 := h5.perm (List.perm_append_comm (l₁ := [_]) (l₂ := N2)))
              | (have _ := h5; refine wpList_append_rl hN2 h5 hr5 _ _ rfl rfl rfl rfl LE.out ?_; clear hN2 h5 hr5; intro v6 W6_ N6 hN6 h6; replace h6 := h6.sub (List.sublist_append_left N6 _)))
            go_roundw
            case rel => exact ⟨ix + 1, by omega, by go_num, _, N6, hN6, h6, hA3.out⟩
            case measure => simp [intOf]; omega
        · obtain rfl : ix = m := by omega
          have g2 : ((ix : Int) < (ix : Int)) = False := eq_false (by omega)
          have hA3 := Lib.hid (AX.out _ _ _ hm.out W16 hA2)
          clear hA2
          go_wp2_with (first
            | (have _ := q1; refine wpList_load_run q1 _ rfl rfl rfl ?_; clear q1)
            | (have _ := hs2; go_at_call 47; refine (WL.out _).mono ?_; rintro e W3 ⟨rfl, hb⟩; have h3 := hs2.call hb; clear hs2 hb))
          go_roundw
          case rel => exact ⟨lv + 1, by omega, by go_num, ys, N2, hN2, h3, hA3.out⟩
          case measure => simp [intOf]; omega
    · obtain rfl : lv = 16 := by omega
      have g1 : (((16 : Nat) : Int) < 16) = False := eq_false (by omega)
      go_wp2
      go_ret
      exact ⟨_, N, xs, rfl, hN, AA.out _ hA, hst⟩
end
end Go.Proofs.Ytnogmfpaipjdaaa
namespace Go.Proofs.Ytnogmfpaipjdaaa
open Go.RowKit
open P (Pl right hasI vals)
set_option maxRecDepth 20000
set_option linter.unusedVariables false
set_option linter.unusedSimpArgs false
def SmRel (W : World) (n : Nat) (i : Value) (wr : World) : Prop := ∃ j : Nat, j ≤ n ∧ i = .int .i64 (j : Nat) ∧ St W wr []
attribute [local irreducible] It.arr Cd.arr
set_option maxHeartbeats 4000000 in
theorem same_any {W : World} {A B : Option Addr} {n c d : Nat} {xs : List Cd} (h1 : ERow W W.heap.size A n c xs) (h2 : ERow W W.heap.size B n d xs) :
    Calls Try.prog 23 #[.slice A n c, .slice B n d] W fun e W' => e = .returned (.bool true) ∧ Below W.heap.size W W' := by
  have mx := h1.max
  have S0 := St.nil W
  have hl := h1.len
  have H1 := Lib.hid h1
  have H2 := Lib.hid h2
  have GY := Lib.hid (fun j (hj : j < n) => show ∃ y, xs[j]? = some y from ⟨_, List.getElem?_eq_getElem (by omega)⟩)
  clear h1 h2 hl
  go_enter Try.func23, Try.ntmps23
  go_wp2
  go_loopw [5] (SmRel W n) (fun i _ => n - (intOf i).toNat)
  case atStart => exact ⟨0, by omega, rfl, S0⟩
  case round =>
    obtain ⟨j, hj, rfl, hst⟩ := hrel
    clear S0
    by_cases hlt : j < n
    · have g1 : ((j : Int) < (n : Int)) = True := eq_true (by omega)
      obtain ⟨y, hy⟩ := GY.out j hlt
      obtain ⟨b1, o1, rfl, hb1, r1⟩ := H1.out.at_ j y hy
      obtain ⟨b2, o2, rfl, hb2, r2⟩ := H2.out.at_ j y hy
      have L1 : (loadVar 59 ⟨b1, o1 + j * 36, none⟩).run Try.prog wr.drew = .ok (.agg y.arr) wr.drew := load_cd (W := wr.drew) (rangeAt_keep r1 (hst.bel.block _ hb1))
      have L2 : (loadVar 59 ⟨b2, o2 + j * 36, none⟩).run Try.prog wr.drew = .ok (.agg y.arr) wr.drew := load_cd (W := wr.drew) (rangeAt_keep r2 (hst.bel.block _ hb2))
      have H0 := Lib.hid (And.intro L1 L2)
      have hs2 := Lib.hid hst.drew
      have NQ : ∀ V, (binOp .neq 59 (.agg y.arr) (.agg y.arr)).run Try.prog V = .ok (.bool false) V := fun V => by rw [neq_cd, decide_eq_true rfl]; rfl
      clear r1 r2 hb1 hb2 L1 L2 hy hst
      go_wp2
      refine wp_region_held_drew (S := fun W => (loadVar 59 ⟨b1, o1 + j * 36, none⟩).run Try.prog W = .ok (.agg y.arr) W ∧ (loadVar 59 ⟨b2, o2 + j * 36, none⟩).run Try.prog W = .ok (.agg y.arr) W) (by kernel_rfl) H0.out (fun _ => ?_)
      generalize World.drew _ = V0 at *
      refine wpAnyH_take (i := 0) (v := .slice (some ⟨b1, o1, none⟩) n c) rfl (by kernel_rfl) (by kernel_rfl) (by kernel_rfl) (fun _ _ _ h => h) (Or.inl ⟨by rfl, fun W hW => by clear hW; go_simp⟩) H0.out ?_
      try simp only [Act.put, List.getElem_toArray, List.getElem_cons_succ, List.getElem_cons_zero, List.setIfInBounds_toArray, List.set_cons_zero, List.set_cons_succ]
      refine wpAnyH_take (i := 1) (v := .int .i64 (j : Int)) rfl (by kernel_rfl) (by kernel_rfl) (by kernel_rfl) (fun _ _ _ h => h) (Or.inl ⟨by rfl, fun W hW => by clear hW; go_simp⟩) H0.out ?_
      try simp only [Act.put, List.getElem_toArray, List.getElem_cons_succ, List.getElem_cons_zero, List.setIfInBounds_toArray, List.set_cons_zero, List.set_cons_succ]
      refine wpAnyH_take (i := 2) (v := .pointer (some ⟨b1, o1 + j * 36, none⟩)) rfl (by kernel_rfl) (by kernel_rfl) (by kernel_rfl) (fun _ _ _ h => h) (Or.inl ⟨by rfl, fun W hW => by clear hW; go_simp⟩) H0.out ?_
      try simp only [Act.put, List.getElem_toArray, List.getElem_cons_succ, List.getElem_cons_zero, List.setIfInBounds_toArray, List.set_cons_zero, List.set_cons_succ]
      refine wpAnyH_take (i := 3) (v := .agg y.arr) rfl (by kernel_rfl) (by kernel_rfl) (by kernel_rfl) (fun _ _ _ h => h) (yields_run _ rfl (by rfl) rfl (fun W hW => hW.1)) H0.out ?_
      try simp only [Act.put, List.getElem_toArray, List.getElem_cons_succ, List.getElem_cons_zero, List.setIfInBounds_toArray, List.set_cons_zero, List.set_cons_succ]
      refine wpAnyH_take (i := 4) (v := .slice (some ⟨b2, o2, none⟩) n d) rfl (by kernel_rfl) (by kernel_rfl) (by kernel_rfl) (fun _ _ _ h => h) (Or.inl ⟨by rfl, fun W hW => by clear hW; go_simp⟩) H0.out ?_
      try simp only [Act.put, List.getElem_toArray, List.getElem_cons_succ, List.getElem_cons_zero, List.setIfInBounds_toArray, List.set_cons_zero, List.set_cons_succ]
      refine wpAnyH_take (i := 5) (v := .int .i64 (j : Int)) rfl (by kernel_rfl) (by kernel_rfl) (by kernel_rfl) (fun _ _ _ h => h) (Or.inl ⟨by rfl, fun W hW => by clear hW; go_simp⟩) H0.out ?_
      try simp only [Act.put, List.getElem_toArray, List.getElem_cons_succ, List.getElem_cons_zero, List.setIfInBounds_toArray, List.set_cons_zero, List.set_cons_succ]
      refine wpAnyH_take (i := 6) (v := .pointer (some ⟨b2, o2 + j * 36, none⟩)) rfl (by kernel_rfl) (by kernel_rfl) (by kernel_rfl) (fun _ _ _ h => h) (Or.inl ⟨by rfl, fun W hW => by clear hW; go_simp⟩) H0.out ?_
      try simp only [Act.put, List.getElem_toArray, List.getElem_cons_succ, List.getElem_cons_zero, List.setIfInBounds_toArray, List.set_cons_zero, List.set_cons_succ]
      refine wpAnyH_take (i := 7) (v := .agg y.arr) rfl (by kernel_rfl) (by kernel_rfl) (by kernel_rfl) (fun _ _ _ h => h) (yields_run _ rfl (by rfl) rfl (fun W hW => hW.2)) H0.out ?_
      try simp only [Act.put, List.getElem_toArray, List.getElem_cons_succ, List.getElem_cons_zero, List.setIfInBounds_toArray, List.set_cons_zero, List.set_cons_succ]
      refine wpAnyH_take (i := 8) (v := .bool false) rfl (by kernel_rfl) (by kernel_rfl) (by kernel_rfl) (fun _ _ _ h => h) (yields_cmpA _ _ rfl (by rfl) rfl rfl (by kernel_rfl) NQ) H0.out ?_
      try simp only [Act.put, List.getElem_toArray, List.getElem_cons_succ, List.getElem_cons_zero, List.setIfInBounds_toArray, List.set_cons_zero, List.set_cons_succ]
      refine wpAnyH_done (by kernel_rfl) ?_ _
      go_wp2
      go_roundw
      case rel => exact ⟨j + 1, by omega, by go_num, hs2.out⟩
      case measure => simp [intOf]; omega
    · obtain rfl : j = n := by omega
      have g1 : ((j : Int) < (j : Int)) = False := eq_false (by omega)
      go_wp2
      go_ret
      exact ⟨rfl, hst.bel⟩
end Go.Proofs.Ytnogmfpaipjdaaa
namespace Go.Proofs.Ytnogmfpaipjdaaa
open Go.RowKit
open P (Pl right hasI vals)
set_option maxRecDepth 20000
set_option linter.unusedVariables false
set_option linter.unusedSimpArgs false

/-- May this one go first? -/
def gV (p : Pl) (k : Int) (ks : List It) (c : Cd) : Bool := (c.bk == k) && !decide (c.it ∈ ways p ks)
theorem find_filter (f g : Cd → Bool) : ∀ l : List Cd, (l.filter f).find? g = l.find? (fun c => f c && g c)
  | [] => rfl
  | y :: l => by
    rw [List.filter_cons, List.find?_cons]
    cases hf : f y with
    | true => rw [if_pos rfl, List.find?_cons, find_filter f g l]; rfl
    | false => rw [if_neg (by simp), find_filter f g l]; rfl
theorem vicC_l {p : Pl} {l : List Cd} (I : Inv p l) (k : Int) (ks : List It) : vicC p l k ks = l.find? (gV p k ks) := by
  unfold vicC
  by_cases hb : hasB p k = true
  · rw [if_pos hb]
    have h0 := (hasB_iff p k).1 hb
    obtain ⟨i, rfl⟩ : ∃ i : Nat, k = (i : Int) := ⟨k.toNat, by omega⟩
    unfold bkL
    rw [find_filter]
    rfl
  · rw [if_neg hb]
    symm
    rw [List.find?_eq_none]
    intro c hc
    unfold gV
    have h1 := I.bk c hc
    have : (c.bk == k) = false := by
      rw [beq_eq_false_iff_ne]
      intro e
      rw [e] at h1
      exact hb ((hasB_iff p k).2 h1)
    rw [this]
    simp
theorem kid_iff {p : Pl} {l : List Cd} {x : It} {a : Nat} {c : Cd} (I : Inv p l) (ha : p.ar = (a : Int)) (hx : isIt p x = true) (h0 : 0 < x.l) (hc : c ∈ l) :
    isKid p x c = true ↔ ∃ n : Nat, n < a ∧ c.it = ⟨x.l - 1, x.x * (a : Int) + (n : Int)⟩ := by
  have har := ((P.shaped_iff p).1 (P.right_facts I.rt).2.1).2.2.1
  obtain ⟨_, k, j, h1, h2, h3, _⟩ := P.hasI_facts (I.it c hc)
  obtain ⟨_, kx, jx, h4, h5, h6, _⟩ := P.hasI_facts hx
  have a0 : 0 < a := by omega
  constructor
  · intro h
    unfold isKid at h
    rw [Bool.and_eq_true, decide_eq_true_eq] at h
    obtain ⟨h7, h8⟩ := h
    obtain ⟨_, _, _, e1, e2⟩ := hasUp_facts h7
    rw [h8] at e1 e2
    have e3 : x.x = ((j / a : Nat) : Int) := by rw [e2, h2, ha]; exact Int.ofNat_ediv_ofNat
    refine ⟨j % a, Nat.mod_lt _ a0, ?_⟩
    have e4 : c.it = ⟨c.it.l, c.it.x⟩ := rfl
    rw [e4, e1, h2, e3]
    congr 1
    · omega
    · exact_mod_cast (Nat.div_add_mod' j a).symm
  · rintro ⟨n, hn, e⟩
    have hu : hasUp p c.it = true := by
      unfold hasUp P.hasU
      rw [show hasI p c.it.l c.it.x = true from I.it c hc, decide_eq_false (by rw [e]; simp only; omega)]
      rfl
    obtain ⟨_, _, _, e1, e2⟩ := hasUp_facts hu
    unfold isKid
    rw [hu]
    simp only [Bool.true_and, decide_eq_true_eq]
    have e3 : upI p c.it = ⟨(upI p c.it).l, (upI p c.it).x⟩ := rfl
    have e4 : x = ⟨x.l, x.x⟩ := rfl
    rw [e3, e1, e2, e, e4, ha]
    congr 1
    · simp only; omega
    · simp only
      rw [h5]
      have e5 : ((jx : Int) * (a : Int) + (n : Int)) = ((jx * a + n : Nat) : Int) := by simp
      rw [e5]
      have e6 : (jx * a + n) / a = jx := by rw [Nat.mul_comm, Nat.mul_add_div a0, Nat.div_eq_of_lt hn, Nat.add_zero]
      rw [show (((jx * a + n : Nat) : Int) / (a : Int)) = (((jx * a + n) / a : Nat) : Int) from Int.ofNat_ediv_ofNat, e6]
section
variable {p : Pl} {l ys : List Cd} {x : It} {a n : Nat} {c : Cd}
theorem kidA (I : Inv p l) (hA : IsAll l ys) (ha : p.ar = (a : Int)) (hx : isIt p x = true) (h0 : 0 < x.l) (h : ∀ n : Nat, n < a → findC l ⟨x.l - 1, x.x * (a : Int) + (n : Int)⟩ = none) : kid p ys x = none := by
  refine kid_none fun i c _ hc => ?_
  have hm : c ∈ l := hA.1.mem_iff.1 (List.mem_of_getElem? hc)
  cases hq : isKid p x c with
  | false => rfl
  | true =>
    obtain ⟨n, hn, e⟩ := (kid_iff I ha hx h0 hm).1 hq
    exact absurd e (findC_none.1 (h n hn) c hm)
theorem kidB (I : Inv p l) (hA : IsAll l ys) (ha : p.ar = (a : Int)) (hx : isIt p x = true) (h0 : 0 < x.l) (hn : n < a) (hf : findC l ⟨x.l - 1, x.x * (a : Int) + (n : Int)⟩ = some c)
    (h : ∀ m : Nat, m < n → findC l ⟨x.l - 1, x.x * (a : Int) + (m : Int)⟩ = none) : kid p ys x = some c := by
  obtain ⟨hc, he⟩ := findC_some hf
  have hy : c ∈ ys := hA.1.mem_iff.2 hc
  obtain ⟨ic, hic⟩ := List.getElem?_of_mem hy
  refine kid_some hic ((kid_iff I ha hx h0 hc).2 ⟨n, hn, he⟩) fun i d hi hd => ?_
  cases hq : isKid p x d with
  | false => rfl
  | true =>
    have hm : d ∈ l := hA.1.mem_iff.1 (List.mem_of_getElem? hd)
    obtain ⟨m, _, e⟩ := (kid_iff I ha hx h0 hm).1 hq
    obtain ⟨g1, f1⟩ := List.getElem?_eq_some_iff.1 hd
    obtain ⟨g2, f2⟩ := List.getElem?_eq_some_iff.1 hic
    have := List.pairwise_iff_getElem.1 hA.2 i ic g1 g2 hi
    rw [f1, f2, e, he] at this
    unfold ltI at this
    simp only at this
    exact absurd e (findC_none.1 (h m (by omega)) d hm)
theorem kid_mem (hA : IsAll l ys) (h : kid p ys x = some c) : c ∈ l := hA.1.mem_iff.1 (List.mem_of_find?_eq_some h)
theorem ben_zero (h : ¬ 0 < x.l) : beneath p ys x = x := ben_none (by
  unfold kid
  rw [List.find?_eq_none]
  intro c hc hq
  have := isKid_l hq
  omega)
end
theorem kept_step {p : Pl} {ks : List It} {q : Nat} {z y : It} (h : ks[q]? = some z) : decide (y ∈ ways p (ks.take (q + 1))) = (decide (y ∈ ways p (ks.take q)) || decide (y ∈ way p z)) := by
  rw [ways_take p ks q z h]
  have e : way p z = wayF p 5 z := rfl
  rw [e]
  by_cases h1 : y ∈ ways p (ks.take q) <;> by_cases h2 : y ∈ wayF p 5 z <;> simp [h1, h2]
end Go.Proofs.Ytnogmfpaipjdaaa
namespace Go.Proofs.Ytnogmfpaipjdaaa
open Go.RowKit
open P (Pl right hasI vals)
set_option maxRecDepth 20000
set_option linter.unusedVariables false
set_option linter.unusedSimpArgs false
def OvRel (W : World) (l : List Cd) (f : Cd → Bool) (rb : Nat) (i : Value) (wr : World) : Prop :=
  ∃ j : Nat, j ≤ l.length ∧ i = .int .i64 (j : Nat) ∧ (∀ i c, i < j → l[i]? = some c → f c = false) ∧ St W wr [(rb, C 42 zit.arr)]
def KvRel (W : World) (p : Pl) (y : Cd) (ks : List It) (n rb : Nat) (kept i : Value) (wr : World) : Prop :=
  ∃ q : Nat, q ≤ n ∧ i = .int .i64 (q : Nat) ∧ kept = .bool (decide (y.it ∈ ways p (ks.take q))) ∧ St W wr [(rb, C 42 zit.arr)]
def L3Rel (W : World) (p : Pl) (ys : List Cd) (T : It) (xb rb f : Nat) (wr : World) : Prop :=
  ∃ x : It, St W wr [(xb, C 42 x.arr), (rb, C 42 zit.arr)] ∧ isIt p x = true ∧ beneath p ys x = T ∧ x.l.toNat + 1 ≤ f
def L4Rel (W : World) (p : Pl) (l ys : List Cd) (x : It) (a xb rb : Nat) (d i : Value) (wr : World) : Prop :=
  ∃ n : Nat, n ≤ a ∧ i = .int .i64 (n : Nat) ∧ ((d = .bool false ∧ (∀ m : Nat, m < n → findC l ⟨x.l - 1, x.x * (a : Int) + (m : Int)⟩ = none) ∧ St W wr [(xb, C 42 x.arr), (rb, C 42 zit.arr)]) ∨ (d = .bool true ∧ ∃ c, kid p ys x = some c ∧ St W wr [(xb, C 42 c.it.arr), (rb, C 42 zit.arr)]))
attribute [local irreducible] It.arr Cd.arr beneath way ways
section
variable {w W W' : World} {r : Nat} {p : Pl} {l ys : List Cd} {L M : Blks}
set_option maxHeartbeats 16000000 in
theorem rvic_any (h : RC w W r p l L) (I : Inv p l) (hA : IsAll l ys) (k : Int) (KA : Option Addr) (kn kc : Nat) (ks : List It) (hk : ERow W W.heap.size KA kn kc ks) :
    Calls Try.prog 18 #[.pointer (some ⟨r, 0, none⟩), .int .i64 k, .slice KA kn kc] W fun e W' => e = .returned (.tuple #[.agg (vicI p l ys k ks).arr, .bool (vicC p l k ks).isSome]) ∧ Below W.heap.size W W' := by
  obtain ⟨A, qq, c46, hr⟩ := h.row
  have rlt := h.rlt
  have har := ((P.shaped_iff p).1 (P.right_facts I.rt).2.1).2.2.1
  obtain ⟨a, ha⟩ : ∃ a : Nat, p.ar = (a : Int) := ⟨p.ar.toNat, by omega⟩
  have BK := Lib.hid (fun V (hb : Below W.heap.size W V) => show V.cell? ⟨r, 46, none⟩ = some (.slice A l.length qq) ∧ (loadVar 28 ⟨r, 0, none⟩).run Try.prog V = .ok (.agg p.arr) V ∧ V.cell? ⟨r, 4, none⟩ = some (.int .i64 (a : Int)) ∧ (∀ j y, l[j]? = some y → ∃ b o, A = some ⟨b, o, none⟩ ∧ V.rangeAt b (o + j * 36) (Elt.cs y)) from
    ⟨(hb.cell (p := ⟨r, 46, none⟩) rlt).trans c46, load_pl (rangeAt_keep h.plan (hb.block _ rlt)), (hb.cell (p := ⟨r, 4, none⟩) rlt).trans (by rw [← ha]; exact h.c4), fun j y hy => by
      obtain ⟨b, o, e, h1, h2⟩ := hr.at_ j y hy
      exact ⟨b, o, e, rangeAt_keep h2 (hb.block _ h1)⟩⟩)
  have KK := Lib.hid (fun V (hb : Below W.heap.size W V) j z (hz : ks[j]? = some z) => show ∃ b o, KA = some ⟨b, o, none⟩ ∧ V.rangeAt b (o + j * 2) (Elt.cs z) from by
    obtain ⟨b, o, e, h1, h2⟩ := hk.at_ j z hz
    exact ⟨b, o, e, rangeAt_keep h2 (hb.block _ h1)⟩)
  have RV := Lib.hid (fun V (hb : Below W.heap.size W V) => (h.call hb : RC w V r p l L))
  have FI := Lib.hid (fun V x (hb : Below W.heap.size W V) => rfind_any (h.call hb) x)
  have ONA := Lib.hid (fun (y : Cd) (hy : y ∈ l) z V => on_any (I.it y hy) z V)
  have EC := Lib.hid (vicC_l I k ks)
  have EI0 := Lib.hid (show vicI p l ys k ks = match vicC p l k ks with | some c => beneath p ys c.it | none => zit from rfl)
  have KA_ := Lib.hid (fun x hx h0 h => kidA (x := x) I hA ha hx h0 h)
  have KB_ := Lib.hid (fun x n c hx h0 hn hf h => kidB (x := x) (n := n) (c := c) I hA ha hx h0 hn hf h)
  have KM := Lib.hid (fun x c h => kid_mem (p := p) (x := x) (c := c) hA h)
  have IT := Lib.hid (fun c hc => I.it c hc)
  have BN := Lib.hid (fun x (h : kid p ys x = none) => ben_none h)
  have BS := Lib.hid (fun x c (h : kid p ys x = some c) => ben_some h)
  have BZ := Lib.hid (fun (x : It) (h : ¬ 0 < x.l) => ben_zero (p := p) (ys := ys) h)
  have BD := Lib.hid (fun (x : It) (hx : isIt p x = true) (h0 : 0 < x.l) => show (0 ≤ x.x ∧ x.x ≤ 15) ∧ x.l ≤ 5 from by
    have hx' := hx
    unfold isIt hasI at hx'
    simp only [Bool.and_eq_true, decide_eq_true_eq] at hx'
    obtain ⟨_, kk, jj, e1, e2, e3, _⟩ := P.hasI_facts hx
    have := P.Lv_le p
    have := Wd16 I.rt x.l
    omega)
  have mx := hr.max
  have kx := hk.max
  have kl := Lib.hid hk.len
  have GY := Lib.hid (fun j (hj : j < l.length) => show ∃ y, l[j]? = some y from ⟨_, List.getElem?_eq_getElem hj⟩)
  have GK := Lib.hid (fun j (hj : j < kn) => show ∃ z, ks[j]? = some z from ⟨_, List.getElem?_eq_getElem (by have := kl.out; omega)⟩)
  have KT := Lib.hid (show ks.take kn = ks by rw [← kl.out]; exact List.take_length)
  have S0 := St.nil W
  have N0 := Lib.hid (fun (h : ∀ i c, i < l.length → l[i]? = some c → gV p k ks c = false) => fstC_none h)
  have NS := Lib.hid (fun j c hc hk h => fstC_some (xs := l) (f := gV p k ks) (j := j) (c := c) hc hk h)
  have GD := Lib.hid (fun c => show gV p k ks c = ((c.bk == k) && !decide (c.it ∈ ways p ks)) from rfl)
  clear h hr hk c46 rlt I hA
  rw [EC.out] at EI0
  rw [EC.out]
  clear EC
  generalize gV p k ks = f at *
  generalize hn : l.length = n at *
  generalize vicI p l ys k ks = VI at *
  generalize hVC : l.find? f = VC at *
  replace hVC := Lib.hid hVC
  have ha4 := Lib.hid har
  clear har
  replace ha := Lib.hid ha
  replace hn := Lib.hid hn
  go_enter Try.func18, Try.ntmps18
  go_wp2_with (refine wpList_alloc_it S0 rfl rfl ?_; clear S0; intro W1 h1 _; generalize hrb : W.heap.size = rb at h1 ⊢)
  clear hrb
  go_loopw [8] (OvRel W l f rb) (fun i _ => n - (intOf i).toNat)
  case atStart => exact ⟨0, by omega, rfl, (fun i c h => absurd h (by omega)), h1⟩
  case round =>
    obtain ⟨j, hj, rfl, hno, hst⟩ := hrel
    clear h1
    rw [hn.out] at hj
    have hno := Lib.hid hno
    have d46 := (BK.out _ hst.bel).1
    by_cases hlt : j < n
    · have g1 : ((j : Int) < (n : Int)) = True := eq_true (by omega)
      obtain ⟨y, hy⟩ := GY.out j hlt
      obtain ⟨bb, o, rfl, _⟩ := (BK.out _ hst.bel).2.2.2 j y hy
      have hyl := Lib.hid (List.mem_of_getElem? hy)
      have RG := Lib.hid (fun V (hb : Below W.heap.size W V) => show V.rangeAt bb (o + j * 36) (Elt.cs y) from by
        obtain ⟨b1, o1, e, h2⟩ := (BK.out _ hb).2.2.2 j y hy
        injection e with e
        injection e with e1 e2 _
        subst e1; subst e2
        exact h2)
      have ON := Lib.hid (ONA.out y hyl.out)
      have NSj := Lib.hid (fun hk h => NS.out j y hy hk h)
      have NXT := Lib.hid (fun (hf : f y = false) => show ∀ i c, i < j + 1 → l[i]? = some c → f c = false from fun i c hi hc => by
        rcases Nat.lt_or_ge i j with q1 | q1
        · exact hno.out i c q1 hc
        · obtain rfl : i = j := by omega
          rw [hy] at hc
          injection hc with hc
          rw [← hc]; exact hf)
      clear hy
      go_wp2
      clear d46
      go_loopw [9, 10] (KvRel W p y ks kn rb) (fun _ i _ => kn - (intOf i).toNat)
      case atStart => exact ⟨0, by omega, rfl, by simp [ways], hst⟩
      case round =>
        obtain ⟨q, hq, rfl, rfl, hs2⟩ := hrel
        clear hst
        by_cases hqt : q < kn
        · have g2 : ((q : Int) < (kn : Int)) = True := eq_true (by omega)
          obtain ⟨z, hz⟩ := GK.out q hqt
          obtain ⟨kb, ko, rfl, _⟩ := KK.out _ hs2.bel q z hz
          have ks1 := Lib.hid (kept_step (p := p) (y := y.it) hz)
          have CB := Lib.hid (fun V (hs : St W V [(rb, C 42 zit.arr)]) => show (loadVar 28 ⟨r, 0, none⟩).run Try.prog V = .ok (.agg p.arr) V ∧ V.cell? ⟨r, 46, none⟩ = some (.slice (some ⟨bb, o, none⟩) n qq) ∧ (loadVar 42 ⟨bb, o + j * 36, none⟩).run Try.prog V = .ok (.agg y.it.arr) V ∧ (loadVar 42 ⟨kb, ko + q * 2, none⟩).run Try.prog V = .ok (.agg z.arr) V from by
            obtain ⟨b1, o1, e, h2⟩ := KK.out _ hs.bel q z hz
            injection e with e
            injection e with e1 e2 _
            subst e1; subst e2
            exact ⟨(BK.out _ hs.bel).2.1, (BK.out _ hs.bel).1, load_it (range_it (RG.out _ hs.bel)), load_it h2⟩)
          clear hz
          cases hke : decide (y.it ∈ ways p (ks.take q)) with
          | true =>
            rw [hke] at ks1
            have HS0 := Lib.hid hs2.drew
            have H0 := Lib.hid (CB.out _ HS0.out)
            clear hs2
            go_wp2
            refine wp_region_held_drew (S := fun W => (loadVar 28 ⟨r, 0, none⟩).run Try.prog W = .ok (.agg p.arr) W ∧ W.cell? ⟨r, 46, none⟩ = some (.slice (some ⟨bb, o, none⟩) n qq) ∧ (loadVar 42 ⟨bb, o + j * 36, none⟩).run Try.prog W = .ok (.agg y.it.arr) W ∧ (loadVar 42 ⟨kb, ko + q * 2, none⟩).run Try.prog W = .ok (.agg z.arr) W) (by kernel_rfl) H0.out (fun _ => ?_)
            generalize World.drew _ = V0 at *
            refine wpAnyH_take (i := 0) (v := .bool true) rfl (by kernel_rfl) (by kernel_rfl) (by kernel_rfl) (fun _ _ _ h => h) (Or.inl ⟨by rfl, fun W hW => by clear hW; go_simp⟩) H0.out ?_
            try simp only [Act.put, List.getElem_toArray, List.getElem_cons_succ, List.getElem_cons_zero, List.setIfInBounds_toArray, List.set_cons_zero, List.set_cons_succ]
            refine wpAnyH_take (i := 1) (v := .bool true) rfl (by kernel_rfl) (by kernel_rfl) (by kernel_rfl) (fun _ _ _ h => h) (Or.inl ⟨by rfl, fun W hW => by clear hW; go_simp⟩) H0.out ?_
            try simp only [Act.put, List.getElem_toArray, List.getElem_cons_succ, List.getElem_cons_zero, List.setIfInBounds_toArray, List.set_cons_zero, List.set_cons_succ]
            refine wpAnyH_take (i := 2) (v := undef) rfl (by kernel_rfl) (by kernel_rfl) (by kernel_rfl) (fun _ _ _ h => h) (Or.inr ⟨by rfl, rfl⟩) H0.out ?_
            try simp only [Act.put, List.getElem_toArray, List.getElem_cons_succ, List.getElem_cons_zero, List.setIfInBounds_toArray, List.set_cons_zero, List.set_cons_succ]
            refine wpAnyH_take (i := 3) (v := undef) rfl (by kernel_rfl) (by kernel_rfl) (by kernel_rfl) (fun _ _ _ h => h) (Or.inr ⟨by rfl, rfl⟩) H0.out ?_
            try simp only [Act.put, List.getElem_toArray, List.getElem_cons_succ, List.getElem_cons_zero, List.setIfInBounds_toArray, List.set_cons_zero, List.set_cons_succ]
            refine wpAnyH_take (i := 4) (v := undef) rfl (by kernel_rfl) (by kernel_rfl) (by kernel_rfl) (fun _ _ _ h => h) (Or.inr ⟨by rfl, rfl⟩) H0.out ?_
            try simp only [Act.put, List.getElem_toArray, List.getElem_cons_succ, List.getElem_cons_zero, List.setIfInBounds_toArray, List.set_cons_zero, List.set_cons_succ]
            refine wpAnyH_take (i := 5) (v := undef) rfl (by kernel_rfl) (by kernel_rfl) (by kernel_rfl) (fun _ _ _ h => h) (Or.inr ⟨by rfl, rfl⟩) H0.out ?_
            try simp only [Act.put, List.getElem_toArray, List.getElem_cons_succ, List.getElem_cons_zero, List.setIfInBounds_toArray, List.set_cons_zero, List.set_cons_succ]
            refine wpAnyH_take (i := 6) (v := undef) rfl (by kernel_rfl) (by kernel_rfl) (by kernel_rfl) (fun _ _ _ h => h) (Or.inr ⟨by rfl, rfl⟩) H0.out ?_
            try simp only [Act.put, List.getElem_toArray, List.getElem_cons_succ, List.getElem_cons_zero, List.setIfInBounds_toArray, List.set_cons_zero, List.set_cons_succ]
            refine wpAnyH_take (i := 7) (v := undef) rfl (by kernel_rfl) (by kernel_rfl) (by kernel_rfl) (fun _ _ _ h => h) (Or.inr ⟨by rfl, rfl⟩) H0.out ?_
            try simp only [Act.put, List.getElem_toArray, List.getElem_cons_succ, List.getElem_cons_zero, List.setIfInBounds_toArray, List.set_cons_zero, List.set_cons_succ]
            refine wpAnyH_take (i := 8) (v := undef) rfl (by kernel_rfl) (by kernel_rfl) (by kernel_rfl) (fun _ _ _ h => h) (Or.inr ⟨by rfl, rfl⟩) H0.out ?_
            try simp only [Act.put, List.getElem_toArray, List.getElem_cons_succ, List.getElem_cons_zero, List.setIfInBounds_toArray, List.set_cons_zero, List.set_cons_succ]
            refine wpAnyH_take (i := 9) (v := undef) rfl (by kernel_rfl) (by kernel_rfl) (by kernel_rfl) (fun _ _ _ h => h) (Or.inr ⟨by rfl, rfl⟩) H0.out ?_
            try simp only [Act.put, List.getElem_toArray, List.getElem_cons_succ, List.getElem_cons_zero, List.setIfInBounds_toArray, List.set_cons_zero, List.set_cons_succ]
            refine wpAnyH_take (i := 10) (v := undef) rfl (by kernel_rfl) (by kernel_rfl) (by kernel_rfl) (fun _ _ _ h => h) (Or.inr ⟨by rfl, rfl⟩) H0.out ?_
            try simp only [Act.put, List.getElem_toArray, List.getElem_cons_succ, List.getElem_cons_zero, List.setIfInBounds_toArray, List.set_cons_zero, List.set_cons_succ]
            refine wpAnyH_take (i := 11) (v := undef) rfl (by kernel_rfl) (by kernel_rfl) (by kernel_rfl) (fun _ _ _ h => h) (Or.inr ⟨by rfl, rfl⟩) H0.out ?_
            try simp only [Act.put, List.getElem_toArray, List.getElem_cons_succ, List.getElem_cons_zero, List.setIfInBounds_toArray, List.set_cons_zero, List.set_cons_succ]
            refine wpAnyH_take (i := 12) (v := undef) rfl (by kernel_rfl) (by kernel_rfl) (by kernel_rfl) (fun _ _ _ h => h) (Or.inr ⟨by rfl, rfl⟩) H0.out ?_
            try simp only [Act.put, List.getElem_toArray, List.getElem_cons_succ, List.getElem_cons_zero, List.setIfInBounds_toArray, List.set_cons_zero, List.set_cons_succ]
            refine wpAnyH_take (i := 13) (v := undef) rfl (by kernel_rfl) (by kernel_rfl) (by kernel_rfl) (fun _ _ _ h => h) (Or.inr ⟨by rfl, rfl⟩) H0.out ?_
            try simp only [Act.put, List.getElem_toArray, List.getElem_cons_succ, List.getElem_cons_zero, List.setIfInBounds_toArray, List.set_cons_zero, List.set_cons_succ]
            refine wpAnyH_take (i := 14) (v := undef) rfl (by kernel_rfl) (by kernel_rfl) (by kernel_rfl) (fun _ _ _ h => h) (Or.inr ⟨by rfl, rfl⟩) H0.out ?_
            try simp only [Act.put, List.getElem_toArray, List.getElem_cons_succ, List.getElem_cons_zero, List.setIfInBounds_toArray, List.set_cons_zero, List.set_cons_succ]
            refine wpAnyH_take (i := 15) (v := undef) rfl (by kernel_rfl) (by kernel_rfl) (by kernel_rfl) (fun _ _ _ h => h) (Or.inr ⟨by rfl, rfl⟩) H0.out ?_
            try simp only [Act.put, List.getElem_toArray, List.getElem_cons_succ, List.getElem_cons_zero, List.setIfInBounds_toArray, List.set_cons_zero, List.set_cons_succ]
            refine wpAnyH_take (i := 16) (v := undef) rfl (by kernel_rfl) (by kernel_rfl) (by kernel_rfl) (fun _ _ _ h => h) (Or.inr ⟨by rfl, rfl⟩) H0.out ?_
            try simp only [Act.put, List.getElem_toArray, List.getElem_cons_succ, List.getElem_cons_zero, List.setIfInBounds_toArray, List.set_cons_zero, List.set_cons_succ]
            refine wpAnyH_take (i := 17) (v := undef) rfl (by kernel_rfl) (by kernel_rfl) (by kernel_rfl) (fun _ _ _ h => h) (Or.inr ⟨by rfl, rfl⟩) H0.out ?_
            try simp only [Act.put, List.getElem_toArray, List.getElem_cons_succ, List.getElem_cons_zero, List.setIfInBounds_toArray, List.set_cons_zero, List.set_cons_succ]
            refine wpAnyH_take (i := 18) (v := undef) rfl (by kernel_rfl) (by kernel_rfl) (by kernel_rfl) (fun _ _ _ h => h) (Or.inr ⟨by rfl, rfl⟩) H0.out ?_
            try simp only [Act.put, List.getElem_toArray, List.getElem_cons_succ, List.getElem_cons_zero, List.setIfInBounds_toArray, List.set_cons_zero, List.set_cons_succ]
            refine wpAnyH_take (i := 19) (v := .bool true) rfl (by kernel_rfl) (by kernel_rfl) (by kernel_rfl) (fun _ _ _ h => h) (Or.inl ⟨by rfl, fun W hW => by clear hW; go_simp⟩) H0.out ?_
            try simp only [Act.put, List.getElem_toArray, List.getElem_cons_succ, List.getElem_cons_zero, List.setIfInBounds_toArray, List.set_cons_zero, List.set_cons_succ]
            refine wpAnyH_take (i := 20) (v := .bool true) rfl (by kernel_rfl) (by kernel_rfl) (by kernel_rfl) (fun _ _ _ h => h) (Or.inl ⟨by rfl, fun W hW => by clear hW; go_simp⟩) H0.out ?_
            try simp only [Act.put, List.getElem_toArray, List.getElem_cons_succ, List.getElem_cons_zero, List.setIfInBounds_toArray, List.set_cons_zero, List.set_cons_succ]
            refine wpAnyH_done (by kernel_rfl) ?_ _
            go_wp2
            go_roundw
            case rel => exact ⟨q + 1, by omega, by go_num, by rw [ks1.out]; rfl, HS0.out⟩
            case measure => simp [intOf]; omega
          | false =>
            rw [hke] at ks1
            obtain ⟨B, hB0⟩ : ∃ B, decide (y.it ∈ way p z) = B := ⟨_, rfl⟩
            have ONz := Lib.hid (fun V => ON.out z V)
            rw [hB0] at ks1 ONz
            clear hB0
            have HS0 := Lib.hid hs2.drew
            have H0 := Lib.hid (CB.out _ HS0.out)
            clear hs2
            go_wp2
            refine wp_region_held_drew (S := fun W => (loadVar 28 ⟨r, 0, none⟩).run Try.prog W = .ok (.agg p.arr) W ∧ W.cell? ⟨r, 46, none⟩ = some (.slice (some ⟨bb, o, none⟩) n qq) ∧ (loadVar 42 ⟨bb, o + j * 36, none⟩).run Try.prog W = .ok (.agg y.it.arr) W ∧ (loadVar 42 ⟨kb, ko + q * 2, none⟩).run Try.prog W = .ok (.agg z.arr) W) (by kernel_rfl) H0.out (fun _ => ?_)
            generalize World.drew _ = V0 at *
            refine wpAnyH_take (i := 0) (v := .bool false) rfl (by kernel_rfl) (by kernel_rfl) (by kernel_rfl) (fun _ _ _ h => h) (Or.inl ⟨by rfl, fun W hW => by clear hW; go_simp⟩) H0.out ?_
            try simp only [Act.put, List.getElem_toArray, List.getElem_cons_succ, List.getElem_cons_zero, List.setIfInBounds_toArray, List.set_cons_zero, List.set_cons_succ]
            refine wpAnyH_take (i := 1) (v := .bool false) rfl (by kernel_rfl) (by kernel_rfl) (by kernel_rfl) (fun _ _ _ h => h) (Or.inl ⟨by rfl, fun W hW => by clear hW; go_simp⟩) H0.out ?_
            try simp only [Act.put, List.getElem_toArray, List.getElem_cons_succ, List.getElem_cons_zero, List.setIfInBounds_toArray, List.set_cons_zero, List.set_cons_succ]
            refine wpAnyH_take (i := 2) (v := .pointer (some ⟨r, 0, none⟩)) rfl (by kernel_rfl) (by kernel_rfl) (by kernel_rfl) (fun _ _ _ h => h) (Or.inl ⟨by rfl, fun W hW => by clear hW; go_simp⟩) H0.out ?_
            try simp only [Act.put, List.getElem_toArray, List.getElem_cons_succ, List.getElem_cons_zero, List.setIfInBounds_toArray, List.set_cons_zero, List.set_cons_succ]
            refine wpAnyH_take (i := 3) (v := .pointer (some ⟨r, 0, none⟩)) rfl (by kernel_rfl) (by kernel_rfl) (by kernel_rfl) (fun _ _ _ h => h) (Or.inl ⟨by rfl, fun W hW => by clear hW; go_simp⟩) H0.out ?_
            try simp only [Act.put, List.getElem_toArray, List.getElem_cons_succ, List.getElem_cons_zero, List.setIfInBounds_toArray, List.set_cons_zero, List.set_cons_succ]
            refine wpAnyH_take (i := 4) (v := .pointer (some ⟨r, 0, none⟩)) rfl (by kernel_rfl) (by kernel_rfl) (by kernel_rfl) (fun _ _ _ h => h) (Or.inl ⟨by rfl, fun W hW => by clear hW; go_simp⟩) H0.out ?_
            try simp only [Act.put, List.getElem_toArray, List.getElem_cons_succ, List.getElem_cons_zero, List.setIfInBounds_toArray, List.set_cons_zero, List.set_cons_succ]
            refine wpAnyH_take (i := 5) (v := .agg p.arr) rfl (by kernel_rfl) (by kernel_rfl) (by kernel_rfl) (fun _ _ _ h => h) (yields_run _ rfl (by rfl) rfl (fun W hW => hW.1)) H0.out ?_
            try simp only [Act.put, List.getElem_toArray, List.getElem_cons_succ, List.getElem_cons_zero, List.setIfInBounds_toArray, List.set_cons_zero, List.set_cons_succ]
            refine wpAnyH_take (i := 6) (v := .pointer (some ⟨r, 0, none⟩)) rfl (by kernel_rfl) (by kernel_rfl) (by kernel_rfl) (fun _ _ _ h => h) (Or.inl ⟨by rfl, fun W hW => by clear hW; go_simp⟩) H0.out ?_
            try simp only [Act.put, List.getElem_toArray, List.getElem_cons_succ, List.getElem_cons_zero, List.setIfInBounds_toArray, List.set_cons_zero, List.set_cons_succ]
            refine wpAnyH_take (i := 7) (v := .pointer (some ⟨r, 0, none⟩)) rfl (by kernel_rfl) (by kernel_rfl) (by kernel_rfl) (fun _ _ _ h => h) (Or.inl ⟨by rfl, fun W hW => by clear hW; go_simp⟩) H0.out ?_
            try simp only [Act.put, List.getElem_toArray, List.getElem_cons_succ, List.getElem_cons_zero, List.setIfInBounds_toArray, List.set_cons_zero, List.set_cons_succ]
            refine wpAnyH_take (i := 8) (v := .pointer (some ⟨r, 46, none⟩)) rfl (by kernel_rfl) (by kernel_rfl) (by kernel_rfl) (fun _ _ _ h => h) (Or.inl ⟨by rfl, fun W hW => by clear hW; go_simp⟩) H0.out ?_
            try simp only [Act.put, List.getElem_toArray, List.getElem_cons_succ, List.getElem_cons_zero, List.setIfInBounds_toArray, List.set_cons_zero, List.set_cons_succ]
            refine wpAnyH_take (i := 9) (v := .slice (some ⟨bb, o, none⟩) n qq) rfl (by kernel_rfl) (by kernel_rfl) (by kernel_rfl) (fun _ _ _ h => h) (Or.inl ⟨by rfl, fun W hW => by have hc := (show W.cell? ⟨r, 46, none⟩ = some (.slice (some ⟨bb, o, none⟩) n qq) from hW.2.1); clear hW; go_simp⟩) H0.out ?_
            try simp only [Act.put, List.getElem_toArray, List.getElem_cons_succ, List.getElem_cons_zero, List.setIfInBounds_toArray, List.set_cons_zero, List.set_cons_succ]
            refine wpAnyH_take (i := 10) (v := .int .i64 (j : Int)) rfl (by kernel_rfl) (by kernel_rfl) (by kernel_rfl) (fun _ _ _ h => h) (Or.inl ⟨by rfl, fun W hW => by clear hW; go_simp⟩) H0.out ?_
            try simp only [Act.put, List.getElem_toArray, List.getElem_cons_succ, List.getElem_cons_zero, List.setIfInBounds_toArray, List.set_cons_zero, List.set_cons_succ]
            refine wpAnyH_take (i := 11) (v := .pointer (some ⟨bb, o + j * 36, none⟩)) rfl (by kernel_rfl) (by kernel_rfl) (by kernel_rfl) (fun _ _ _ h => h) (Or.inl ⟨by rfl, fun W hW => by clear hW; go_simp⟩) H0.out ?_
            try simp only [Act.put, List.getElem_toArray, List.getElem_cons_succ, List.getElem_cons_zero, List.setIfInBounds_toArray, List.set_cons_zero, List.set_cons_succ]
            refine wpAnyH_take (i := 12) (v := .pointer (some ⟨bb, o + j * 36, none⟩)) rfl (by kernel_rfl) (by kernel_rfl) (by kernel_rfl) (fun _ _ _ h => h) (Or.inl ⟨by rfl, fun W hW => by clear hW; go_simp⟩) H0.out ?_
            try simp only [Act.put, List.getElem_toArray, List.getElem_cons_succ, List.getElem_cons_zero, List.setIfInBounds_toArray, List.set_cons_zero, List.set_cons_succ]
            refine wpAnyH_take (i := 13) (v := .agg y.it.arr) rfl (by kernel_rfl) (by kernel_rfl) (by kernel_rfl) (fun _ _ _ h => h) (yields_run _ rfl (by rfl) rfl (fun W hW => hW.2.2.1)) H0.out ?_
            try simp only [Act.put, List.getElem_toArray, List.getElem_cons_succ, List.getElem_cons_zero, List.setIfInBounds_toArray, List.set_cons_zero, List.set_cons_succ]
            refine wpAnyH_take (i := 14) (v := .slice (some ⟨kb, ko, none⟩) kn kc) rfl (by kernel_rfl) (by kernel_rfl) (by kernel_rfl) (fun _ _ _ h => h) (Or.inl ⟨by rfl, fun W hW => by clear hW; go_simp⟩) H0.out ?_
            try simp only [Act.put, List.getElem_toArray, List.getElem_cons_succ, List.getElem_cons_zero, List.setIfInBounds_toArray, List.set_cons_zero, List.set_cons_succ]
            refine wpAnyH_take (i := 15) (v := .int .i64 (q : Int)) rfl (by kernel_rfl) (by kernel_rfl) (by kernel_rfl) (fun _ _ _ h => h) (Or.inl ⟨by rfl, fun W hW => by clear hW; go_simp⟩) H0.out ?_
            try simp only [Act.put, List.getElem_toArray, List.getElem_cons_succ, List.getElem_cons_zero, List.setIfInBounds_toArray, List.set_cons_zero, List.set_cons_succ]
            refine wpAnyH_take (i := 16) (v := .pointer (some ⟨kb, ko + q * 2, none⟩)) rfl (by kernel_rfl) (by kernel_rfl) (by kernel_rfl) (fun _ _ _ h => h) (Or.inl ⟨by rfl, fun W hW => by clear hW; go_simp⟩) H0.out ?_
            try simp only [Act.put, List.getElem_toArray, List.getElem_cons_succ, List.getElem_cons_zero, List.setIfInBounds_toArray, List.set_cons_zero, List.set_cons_succ]
            refine wpAnyH_take (i := 17) (v := .agg z.arr) rfl (by kernel_rfl) (by kernel_rfl) (by kernel_rfl) (fun _ _ _ h => h) (yields_run _ rfl (by rfl) rfl (fun W hW => hW.2.2.2)) H0.out ?_
            try simp only [Act.put, List.getElem_toArray, List.getElem_cons_succ, List.getElem_cons_zero, List.setIfInBounds_toArray, List.set_cons_zero, List.set_cons_succ]
            refine wpAnyH_ready (rs := [18]) (by kernel_rfl) (by simp) ?_
            refine AllReadyH.cons rfl (fun K hK => ?_) AllReadyH.nil
            go_simp
            go_at_call 40
            refine (ONz.out _).mono ?_
            rintro e V1 ⟨rfl, hb1⟩
            have HS1 := Lib.hid (HS0.out.call hb1)
            clear hb1
            have H1_ := Lib.hid (CB.out _ HS1.out)
            refine hK.out _ _ H1_.out (fun _ => ?_)
            clear hK K
            try simp only [Act.put, List.getElem_toArray, List.getElem_cons_succ, List.getElem_cons_zero, List.setIfInBounds_toArray, List.set_cons_zero, List.set_cons_succ]
            refine wpAnyH_take (i := 19) (v := .bool B) rfl (by kernel_rfl) (by kernel_rfl) (by kernel_rfl) (fun _ _ _ h => h) (Or.inl ⟨by rfl, fun W hW => by clear hW; go_simp⟩) H1_.out ?_
            try simp only [Act.put, List.getElem_toArray, List.getElem_cons_succ, List.getElem_cons_zero, List.setIfInBounds_toArray, List.set_cons_zero, List.set_cons_succ]
            refine wpAnyH_take (i := 20) (v := .bool B) rfl (by kernel_rfl) (by kernel_rfl) (by kernel_rfl) (fun _ _ _ h => h) (Or.inl ⟨by rfl, fun W hW => by clear hW; go_simp⟩) H1_.out ?_
            try simp only [Act.put, List.getElem_toArray, List.getElem_cons_succ, List.getElem_cons_zero, List.setIfInBounds_toArray, List.set_cons_zero, List.set_cons_succ]
            refine wpAnyH_done (by kernel_rfl) ?_ _
            go_wp2
            go_roundw
            case rel => exact ⟨q + 1, by omega, by go_num, by rw [ks1.out]; rfl, HS1.out⟩
            case measure => simp [intOf]; omega
        · obtain rfl : q = kn := by omega
          have g2 : ((q : Int) < (q : Int)) = False := eq_false (by omega)
          rw [KT.out]
          have gd := GD.out y
          have d46 := (BK.out _ hs2.bel).1
          have db : wr.cell? ⟨bb, o + j * 36 + 2, none⟩ = some (.int .i64 y.bk) := RG.out _ hs2.bel 2 _ (by simp [Elt.cs, Cd.cs])
          generalize hKE : decide (y.it ∈ ways p ks) = KE at *
          clear hKE
          by_cases hbk : y.bk = k
          · have q4 : (y.bk = k) = True := eq_true hbk
            have q5 : (y.bk == k) = true := by simpa using hbk
            have q6 : (y.bk != k) = false := by simpa using hbk
            rw [q5] at gd
            cases KE with
            | true =>
              have NX := Lib.hid (NXT.out gd)
              have hs3 := hs2
              clear hs2
              go_wp2
              go_roundw
              case rel => exact ⟨j + 1, by rw [hn.out]; omega, by go_num, NX.out, hs3⟩
              case measure => simp [intOf]; omega
            | false =>
              have vc := NSj.out gd hno.out
              subst vc
              have EI := EI0
              have EV := Lib.hid (rfl : VI = VI)
              have q1 := range_it (RG.out _ hs2.bel)
              obtain ⟨T, hT⟩ : ∃ T, T = beneath p ys y.it := ⟨_, rfl⟩
              have hyi := IT.out y hyl.out
              replace EI : Hid (VI = T) := show _ = _ by rw [EI0.out, hT]
              replace hT := Lib.hid hT.symm
              go_wp2_with (first
                | (have _ := q1; refine wpList_loadIt (e := y.it) q1 _ rfl rfl rfl ?_; clear q1)
                | (have _ := hs2; refine wpList_alloc_it hs2 rfl rfl ?_; clear hs2 d46 db; intro X1 h2 _; generalize wr.heap.size = xb at *)
                | (have _ := h2; refine wpList_store_it h2 0 y.it rfl _ _ rfl rfl rfl rfl ?_; clear h2; intro X2 h3 _))
              go_loopg [] (y.it.l.toNat + 1) (fun f wr => L3Rel W p ys T xb rb f wr)
              case atStart => exact ⟨y.it, h3, hyi, hT.out, Nat.le_refl _⟩
              case round =>
                obtain ⟨x1, hs3, hx1, hB, hf⟩ := hrel
                clear h3 hyi
                replace hB := Lib.hid hB
                replace hf := Lib.hid hf
                have dl : wr.cell? ⟨xb, 0, none⟩ = some (.int .i64 x1.l) := hs3.cell 0 rfl 0 _ x1.at0
                by_cases h0 : 0 < x1.l
                · have q4 : (x1.l > 0) = True := eq_true h0
                  have q4b : (0 < x1.l) = True := eq_true h0
                  have bd := BD.out x1 hx1 h0
                  have a4 : 2 ≤ a ∧ a ≤ 4 := by have := ha4.out; have := ha.out; omega
                  obtain ⟨PR, hPR⟩ : ∃ PR, PR = x1.x * (a : Int) := ⟨_, rfl⟩
                  have p1 : 0 ≤ PR := by rw [hPR]; exact Int.mul_nonneg (by omega) (by omega)
                  have p2 : PR ≤ 15 * 4 := by rw [hPR]; exact Int.mul_le_mul bd.1.2 (by omega) (by omega) (by omega)
                  have w1 : IntKind.i64.wrap (x1.l - 1) = x1.l - 1 := IntWalk.i64_in _ (by omega)
                  have w2 : IntKind.i64.wrap (x1.x * (a : Int)) = PR := by rw [← hPR]; exact IntWalk.i64_in _ (by omega)
                  have KAx := Lib.hid (KA_.out x1 hx1 h0)
                  have KBx := Lib.hid (fun n c => KB_.out x1 n c hx1 h0)
                  rw [← hPR] at KAx KBx
                  replace hPR := Lib.hid hPR
                  replace hx1 := Lib.hid hx1
                  go_wp2
                  clear dl
                  go_loopw [12, 13] (L4Rel W p l ys x1 a xb rb) (fun _ i _ => a - (intOf i).toNat)
                  case atStart => exact ⟨0, by omega, rfl, .inl ⟨rfl, (fun m h => absurd h (by omega)), hs3⟩⟩
                  case round =>
                    obtain ⟨nn, hnn, rfl, hcase⟩ := hrel
                    clear hs3
                    rcases hcase with ⟨rfl, hnone, hs4⟩ | ⟨rfl, c, hkid, hs4⟩
                    · rw [← hPR.out] at hnone
                      have hnone := Lib.hid hnone
                      have d4 := (BK.out _ hs4.bel).2.2.1
                      by_cases hnt : nn < a
                      · have g3 : ((nn : Int) < (a : Int)) = True := eq_true (by omega)
                        have w3 : IntKind.i64.wrap (PR + (nn : Int)) = PR + (nn : Int) := IntWalk.i64_in _ (by omega)
                        have FX := Lib.hid (fun V (hb : Below W.heap.size W V) => FI.out V ⟨x1.l - 1, PR + (nn : Int)⟩ hb)
                        rcases fI_spec l ⟨x1.l - 1, PR + (nn : Int)⟩ with ⟨hfc, ei⟩ | ⟨kk, c, hfc, hkk, ei⟩
                        · rw [ei] at FX
                          have HN := Lib.hid (show ∀ m : Nat, m < nn + 1 → findC l ⟨x1.l - 1, x1.x * (a : Int) + (m : Int)⟩ = none from fun m hm => by
                            rw [← hPR.out]
                            rcases Nat.lt_or_ge m nn with h1 | h1
                            · exact hnone.out m h1
                            · obtain rfl : m = nn := by omega
                              exact hfc)
                          clear ei hfc
                          have HS0 := Lib.hid hs4.drew
                          have CB2 := Lib.hid (fun (V : World) (X : Blks) (hs : St W V X) (m1 : (xb, C 42 x1.arr) ∈ X) => show V.cell? ⟨xb, 0, none⟩ = some (.int .i64 x1.l) ∧ V.cell? ⟨xb, 1, none⟩ = some (.int .i64 x1.x) ∧ V.cell? ⟨r, 4, none⟩ = some (.int .i64 (a : Int)) from by
                            have a1 : At V xb 42 x1.arr := hs.at_ _ m1
                            exact ⟨(a1.cell 0).trans x1.at0, (a1.cell 1).trans x1.at1, (BK.out _ hs.bel).2.2.1⟩)
                          have H0 := Lib.hid (CB2.out _ _ HS0.out (by simp))
                          clear hs4
                          go_wp2
                          refine wp_region_last (fun W => W.cell? ⟨xb, 0, none⟩ = some (.int .i64 x1.l) ∧ W.cell? ⟨xb, 1, none⟩ = some (.int .i64 x1.x) ∧ W.cell? ⟨r, 4, none⟩ = some (.int .i64 (a : Int))) 15 (by kernel_rfl) ?_
                          generalize World.drew _ = V0 at *
                          refine AnyT.take (i := 0) (v := .pointer (some ⟨xb, 0, none⟩)) rfl (by kernel_rfl) (by kernel_rfl) (by kernel_rfl) (by kernel_rfl) (by decide) (fun _ _ _ h => h) (Or.inl ⟨by rfl, fun W hW => by clear hW; go_simp⟩) H0.out ?_
                          try simp only [Act.put, List.getElem_toArray, List.getElem_cons_succ, List.getElem_cons_zero, List.setIfInBounds_toArray, List.set_cons_zero, List.set_cons_succ]
                          refine AnyT.take (i := 1) (v := .int .i64 x1.l) rfl (by kernel_rfl) (by kernel_rfl) (by kernel_rfl) (by kernel_rfl) (by decide) (fun _ _ _ h => h) (Or.inl ⟨by rfl, fun W hW => by have hc := (show W.cell? ⟨xb, 0, none⟩ = some (.int .i64 x1.l) from hW.1); clear hW; go_simp⟩) H0.out ?_
                          try simp only [Act.put, List.getElem_toArray, List.getElem_cons_succ, List.getElem_cons_zero, List.setIfInBounds_toArray, List.set_cons_zero, List.set_cons_succ]
                          refine AnyT.take (i := 2) (v := .int .i64 (x1.l - 1)) rfl (by kernel_rfl) (by kernel_rfl) (by kernel_rfl) (by kernel_rfl) (by decide) (fun _ _ _ h => h) (Or.inl ⟨by rfl, fun W hW => by clear hW; go_simp⟩) H0.out ?_
                          try simp only [Act.put, List.getElem_toArray, List.getElem_cons_succ, List.getElem_cons_zero, List.setIfInBounds_toArray, List.set_cons_zero, List.set_cons_succ]
                          refine AnyT.take (i := 3) (v := .pointer (some ⟨xb, 1, none⟩)) rfl (by kernel_rfl) (by kernel_rfl) (by kernel_rfl) (by kernel_rfl) (by decide) (fun _ _ _ h => h) (Or.inl ⟨by rfl, fun W hW => by clear hW; go_simp⟩) H0.out ?_
                          try simp only [Act.put, List.getElem_toArray, List.getElem_cons_succ, List.getElem_cons_zero, List.setIfInBounds_toArray, List.set_cons_zero, List.set_cons_succ]
                          refine AnyT.take (i := 4) (v := .int .i64 x1.x) rfl (by kernel_rfl) (by kernel_rfl) (by kernel_rfl) (by kernel_rfl) (by decide) (fun _ _ _ h => h) (Or.inl ⟨by rfl, fun W hW => by have hc := (show W.cell? ⟨xb, 1, none⟩ = some (.int .i64 x1.x) from hW.2.1); clear hW; go_simp⟩) H0.out ?_
                          try simp only [Act.put, List.getElem_toArray, List.getElem_cons_succ, List.getElem_cons_zero, List.setIfInBounds_toArray, List.set_cons_zero, List.set_cons_succ]
                          refine AnyT.take (i := 5) (v := .pointer (some ⟨r, 0, none⟩)) rfl (by kernel_rfl) (by kernel_rfl) (by kernel_rfl) (by kernel_rfl) (by decide) (fun _ _ _ h => h) (Or.inl ⟨by rfl, fun W hW => by clear hW; go_simp⟩) H0.out ?_
                          try simp only [Act.put, List.getElem_toArray, List.getElem_cons_succ, List.getElem_cons_zero, List.setIfInBounds_toArray, List.set_cons_zero, List.set_cons_succ]
                          refine AnyT.take (i := 6) (v := .pointer (some ⟨r, 0, none⟩)) rfl (by kernel_rfl) (by kernel_rfl) (by kernel_rfl) (by kernel_rfl) (by decide) (fun _ _ _ h => h) (Or.inl ⟨by rfl, fun W hW => by clear hW; go_simp⟩) H0.out ?_
                          try simp only [Act.put, List.getElem_toArray, List.getElem_cons_succ, List.getElem_cons_zero, List.setIfInBounds_toArray, List.set_cons_zero, List.set_cons_succ]
                          refine AnyT.take (i := 7) (v := .pointer (some ⟨r, 0, none⟩)) rfl (by kernel_rfl) (by kernel_rfl) (by kernel_rfl) (by kernel_rfl) (by decide) (fun _ _ _ h => h) (Or.inl ⟨by rfl, fun W hW => by clear hW; go_simp⟩) H0.out ?_
                          try simp only [Act.put, List.getElem_toArray, List.getElem_cons_succ, List.getElem_cons_zero, List.setIfInBounds_toArray, List.set_cons_zero, List.set_cons_succ]
                          refine AnyT.take (i := 8) (v := .pointer (some ⟨r, 4, none⟩)) rfl (by kernel_rfl) (by kernel_rfl) (by kernel_rfl) (by kernel_rfl) (by decide) (fun _ _ _ h => h) (Or.inl ⟨by rfl, fun W hW => by clear hW; go_simp⟩) H0.out ?_
                          try simp only [Act.put, List.getElem_toArray, List.getElem_cons_succ, List.getElem_cons_zero, List.setIfInBounds_toArray, List.set_cons_zero, List.set_cons_succ]
                          refine AnyT.take (i := 9) (v := .int .i64 (a : Int)) rfl (by kernel_rfl) (by kernel_rfl) (by kernel_rfl) (by kernel_rfl) (by decide) (fun _ _ _ h => h) (Or.inl ⟨by rfl, fun W hW => by have hc := (show W.cell? ⟨r, 4, none⟩ = some (.int .i64 (a : Int)) from hW.2.2); clear hW; go_simp⟩) H0.out ?_
                          try simp only [Act.put, List.getElem_toArray, List.getElem_cons_succ, List.getElem_cons_zero, List.setIfInBounds_toArray, List.set_cons_zero, List.set_cons_succ]
                          refine AnyT.take (i := 10) (v := .int .i64 PR) rfl (by kernel_rfl) (by kernel_rfl) (by kernel_rfl) (by kernel_rfl) (by decide) (fun _ _ _ h => h) (Or.inl ⟨by rfl, fun W hW => by clear hW; go_simp⟩) H0.out ?_
                          try simp only [Act.put, List.getElem_toArray, List.getElem_cons_succ, List.getElem_cons_zero, List.setIfInBounds_toArray, List.set_cons_zero, List.set_cons_succ]
                          refine AnyT.take (i := 11) (v := .int .i64 (nn : Int)) rfl (by kernel_rfl) (by kernel_rfl) (by kernel_rfl) (by kernel_rfl) (by decide) (fun _ _ _ h => h) (Or.inl ⟨by rfl, fun W hW => by clear hW; go_simp⟩) H0.out ?_
                          try simp only [Act.put, List.getElem_toArray, List.getElem_cons_succ, List.getElem_cons_zero, List.setIfInBounds_toArray, List.set_cons_zero, List.set_cons_succ]
                          refine AnyT.take (i := 12) (v := .int .i64 (PR + (nn : Int))) rfl (by kernel_rfl) (by kernel_rfl) (by kernel_rfl) (by kernel_rfl) (by decide) (fun _ _ _ h => h) (Or.inl ⟨by rfl, fun W hW => by clear hW; go_simp⟩) H0.out ?_
                          try simp only [Act.put, List.getElem_toArray, List.getElem_cons_succ, List.getElem_cons_zero, List.setIfInBounds_toArray, List.set_cons_zero, List.set_cons_succ]
                          refine AnyT.take (i := 13) (v := .agg (It.arr ⟨x1.l - 1, PR + (nn : Int)⟩)) rfl (by kernel_rfl) (by kernel_rfl) (by kernel_rfl) (by kernel_rfl) (by decide) (fun _ _ _ h => h) (yields_build 42 _ rfl (by rfl) _ (by exact built42K (x1.l - 1) (PR + (nn : Int)))) H0.out ?_
                          try simp only [Act.put, List.getElem_toArray, List.getElem_cons_succ, List.getElem_cons_zero, List.setIfInBounds_toArray, List.set_cons_zero, List.set_cons_succ]
                          refine AnyT.one (i := 14) (by kernel_rfl) rfl (fun K hK => ?_)
                          rw [if_pos (by rfl)]
                          refine wp_alloc_itO HS0.out rfl ?_
                          intro V1 tb ht1
                          have HT1 := Lib.hid ht1
                          have H1_ := Lib.hid (CB2.out _ _ ht1 (by simp))
                          clear ht1
                          refine hK.out _ _ (fun _ => H1_.out) ?_
                          clear hK K
                          try simp only [Act.put, List.getElem_toArray, List.getElem_cons_succ, List.getElem_cons_zero, List.setIfInBounds_toArray, List.set_cons_zero, List.set_cons_succ]
                          refine AnyT.one (i := 15) (by kernel_rfl) rfl (fun K hK => ?_)
                          rw [if_pos (by rfl)]
                          refine wp_store_itO HT1.out 0 (⟨x1.l - 1, PR + (nn : Int)⟩ : It) rfl (.tmp 14) (.tmp 100) rfl rfl rfl ?_
                          intro V2 ht2
                          have HT2 := Lib.hid ht2
                          clear ht2
                          refine hK.out _ _ (fun h => absurd rfl h) ?_
                          clear hK K
                          try simp only [Act.put, List.getElem_toArray, List.getElem_cons_succ, List.getElem_cons_zero, List.setIfInBounds_toArray, List.set_cons_zero, List.set_cons_succ]
                          refine AnyT.done (by kernel_rfl) ?_ _
                          have h5 := HT2.out
                          clear HS0 HT1 HT2 H0 H1_ CB2
                          generalize (⟨x1.l - 1, PR + (nn : Int)⟩ : It) = Z at *
                          have q7 : World.rangeAt _ tb 0 (Elt.cs Z) := at_it (h5.get 0 rfl)
                          go_wp2_with (first
                            | (have _ := q7; refine wpList_loadIt (e := Z) q7 _ rfl rfl rfl ?_; clear q7)
                            | (have _ := h5; go_at_call 20; refine (FX.out _ h5.bel).mono ?_; rintro e Y3 ⟨rfl, hb⟩; have h6 := h5.call hb; clear h5 hb FX))
                          go_roundw
                          case rel => exact ⟨nn + 1, by omega, by go_num, .inl ⟨rfl, HN.out, h6.tail⟩⟩
                          case measure => simp [intOf]; omega
                        · rw [ei] at FX
                          have HK := Lib.hid (KBx.out nn c hnt hfc hnone.out)
                          have he := (findC_some hfc).2
                          have q8 : ((kk : Int) ≥ 0) = True := eq_true (by omega)
                          have q9 : (0 ≤ (kk : Int)) = True := eq_true (by omega)
                          replace he := Lib.hid he
                          clear ei hfc hkk
                          have HS0 := Lib.hid hs4.drew
                          have CB2 := Lib.hid (fun (V : World) (X : Blks) (hs : St W V X) (m1 : (xb, C 42 x1.arr) ∈ X) => show V.cell? ⟨xb, 0, none⟩ = some (.int .i64 x1.l) ∧ V.cell? ⟨xb, 1, none⟩ = some (.int .i64 x1.x) ∧ V.cell? ⟨r, 4, none⟩ = some (.int .i64 (a : Int)) from by
                            have a1 : At V xb 42 x1.arr := hs.at_ _ m1
                            exact ⟨(a1.cell 0).trans x1.at0, (a1.cell 1).trans x1.at1, (BK.out _ hs.bel).2.2.1⟩)
                          have H0 := Lib.hid (CB2.out _ _ HS0.out (by simp))
                          clear hs4
                          go_wp2
                          refine wp_region_last (fun W => W.cell? ⟨xb, 0, none⟩ = some (.int .i64 x1.l) ∧ W.cell? ⟨xb, 1, none⟩ = some (.int .i64 x1.x) ∧ W.cell? ⟨r, 4, none⟩ = some (.int .i64 (a : Int))) 15 (by kernel_rfl) ?_
                          generalize World.drew _ = V0 at *
                          refine AnyT.take (i := 0) (v := .pointer (some ⟨xb, 0, none⟩)) rfl (by kernel_rfl) (by kernel_rfl) (by kernel_rfl) (by kernel_rfl) (by decide) (fun _ _ _ h => h) (Or.inl ⟨by rfl, fun W hW => by clear hW; go_simp⟩) H0.out ?_
                          try simp only [Act.put, List.getElem_toArray, List.getElem_cons_succ, List.getElem_cons_zero, List.setIfInBounds_toArray, List.set_cons_zero, List.set_cons_succ]
                          refine AnyT.take (i := 1) (v := .int .i64 x1.l) rfl (by kernel_rfl) (by kernel_rfl) (by kernel_rfl) (by kernel_rfl) (by decide) (fun _ _ _ h => h) (Or.inl ⟨by rfl, fun W hW => by have hc := (show W.cell? ⟨xb, 0, none⟩ = some (.int .i64 x1.l) from hW.1); clear hW; go_simp⟩) H0.out ?_
                          try simp only [Act.put, List.getElem_toArray, List.getElem_cons_succ, List.getElem_cons_zero, List.setIfInBounds_toArray, List.set_cons_zero, List.set_cons_succ]
                          refine AnyT.take (i := 2) (v := .int .i64 (x1.l - 1)) rfl (by kernel_rfl) (by kernel_rfl) (by kernel_rfl) (by kernel_rfl) (by decide) (fun _ _ _ h => h) (Or.inl ⟨by rfl, fun W hW => by clear hW; go_simp⟩) H0.out ?_
                          try simp only [Act.put, List.getElem_toArray, List.getElem_cons_succ, List.getElem_cons_zero, List.setIfInBounds_toArray, List.set_cons_zero, List.set_cons_succ]
                          refine AnyT.take (i := 3) (v := .pointer (some ⟨xb, 1, none⟩)) rfl (by kernel_rfl) (by kernel_rfl) (by kernel_rfl) (by kernel_rfl) (by decide) (fun _ _ _ h => h) (Or.inl ⟨by rfl, fun W hW => by clear hW; go_simp⟩) H0.out ?_
                          try simp only [Act.put, List.getElem_toArray, List.getElem_cons_succ, List.getElem_cons_zero, List.setIfInBounds_toArray, List.set_cons_zero, List.set_cons_succ]
                          refine AnyT.take (i := 4) (v := .int .i64 x1.x) rfl (by kernel_rfl) (by kernel_rfl) (by kernel_rfl) (by kernel_rfl) (by decide) (fun _ _ _ h => h) (Or.inl ⟨by rfl, fun W hW => by have hc := (show W.cell? ⟨xb, 1, none⟩ = some (.int .i64 x1.x) from hW.2.1); clear hW; go_simp⟩) H0.out ?_
                          try simp only [Act.put, List.getElem_toArray, List.getElem_cons_succ, List.getElem_cons_zero, List.setIfInBounds_toArray, List.set_cons_zero, List.set_cons_succ]
                          refine AnyT.take (i := 5) (v := .pointer (some ⟨r, 0, none⟩)) rfl (by kernel_rfl) (by kernel_rfl) (by kernel_rfl) (by kernel_rfl) (by decide) (fun _ _ _ h => h) (Or.inl ⟨by rfl, fun W hW => by clear hW; go_simp⟩) H0.out ?_
                          try simp only [Act.put, List.getElem_toArray, List.getElem_cons_succ, List.getElem_cons_zero, List.setIfInBounds_toArray, List.set_cons_zero, List.set_cons_succ]
                          refine AnyT.take (i := 6) (v := .pointer (some ⟨r, 0, none⟩)) rfl (by kernel_rfl) (by kernel_rfl) (by kernel_rfl) (by kernel_rfl) (by decide) (fun _ _ _ h => h) (Or.inl ⟨by rfl, fun W hW => by clear hW; go_simp⟩) H0.out ?_
                          try simp only [Act.put, List.getElem_toArray, List.getElem_cons_succ, List.getElem_cons_zero, List.setIfInBounds_toArray, List.set_cons_zero, List.set_cons_succ]
                          refine AnyT.take (i := 7) (v := .pointer (some ⟨r, 0, none⟩)) rfl (by kernel_rfl) (by kernel_rfl) (by kernel_rfl) (by kernel_rfl) (by decide) (fun _ _ _ h => h) (Or.inl ⟨by rfl, fun W hW => by clear hW; go_simp⟩) H0.out ?_
                          try simp only [Act.put, List.getElem_toArray, List.getElem_cons_succ, List.getElem_cons_zero, List.setIfInBounds_toArray, List.set_cons_zero, List.set_cons_succ]
                          refine AnyT.take (i := 8) (v := .pointer (some ⟨r, 4, none⟩)) rfl (by kernel_rfl) (by kernel_rfl) (by kernel_rfl) (by kernel_rfl) (by decide) (fun _ _ _ h => h) (Or.inl ⟨by rfl, fun W hW => by clear hW; go_simp⟩) H0.out ?_
                          try simp only [Act.put, List.getElem_toArray, List.getElem_cons_succ, List.getElem_cons_zero, List.setIfInBounds_toArray, List.set_cons_zero, List.set_cons_succ]
                          refine AnyT.take (i := 9) (v := .int .i64 (a : Int)) rfl (by kernel_rfl) (by kernel_rfl) (by kernel_rfl) (by kernel_rfl) (by decide) (fun _ _ _ h => h) (Or.inl ⟨by rfl, fun W hW => by have hc := (show W.cell? ⟨r, 4, none⟩ = some (.int .i64 (a : Int)) from hW.2.2); clear hW; go_simp⟩) H0.out ?_
                          try simp only [Act.put, List.getElem_toArray, List.getElem_cons_succ, List.getElem_cons_zero, List.setIfInBounds_toArray, List.set_cons_zero, List.set_cons_succ]
                          refine AnyT.take (i := 10) (v := .int .i64 PR) rfl (by kernel_rfl) (by kernel_rfl) (by kernel_rfl) (by kernel_rfl) (by decide) (fun _ _ _ h => h) (Or.inl ⟨by rfl, fun W hW => by clear hW; go_simp⟩) H0.out ?_
                          try simp only [Act.put, List.getElem_toArray, List.getElem_cons_succ, List.getElem_cons_zero, List.setIfInBounds_toArray, List.set_cons_zero, List.set_cons_succ]
                          refine AnyT.take (i := 11) (v := .int .i64 (nn : Int)) rfl (by kernel_rfl) (by kernel_rfl) (by kernel_rfl) (by kernel_rfl) (by decide) (fun _ _ _ h => h) (Or.inl ⟨by rfl, fun W hW => by clear hW; go_simp⟩) H0.out ?_
                          try simp only [Act.put, List.getElem_toArray, List.getElem_cons_succ, List.getElem_cons_zero, List.setIfInBounds_toArray, List.set_cons_zero, List.set_cons_succ]
                          refine AnyT.take (i := 12) (v := .int .i64 (PR + (nn : Int))) rfl (by kernel_rfl) (by kernel_rfl) (by kernel_rfl) (by kernel_rfl) (by decide) (fun _ _ _ h => h) (Or.inl ⟨by rfl, fun W hW => by clear hW; go_simp⟩) H0.out ?_
                          try simp only [Act.put, List.getElem_toArray, List.getElem_cons_succ, List.getElem_cons_zero, List.setIfInBounds_toArray, List.set_cons_zero, List.set_cons_succ]
                          refine AnyT.take (i := 13) (v := .agg (It.arr ⟨x1.l - 1, PR + (nn : Int)⟩)) rfl (by kernel_rfl) (by kernel_rfl) (by kernel_rfl) (by kernel_rfl) (by decide) (fun _ _ _ h => h) (yields_build 42 _ rfl (by rfl) _ (by exact built42K (x1.l - 1) (PR + (nn : Int)))) H0.out ?_
                          try simp only [Act.put, List.getElem_toArray, List.getElem_cons_succ, List.getElem_cons_zero, List.setIfInBounds_toArray, List.set_cons_zero, List.set_cons_succ]
                          refine AnyT.one (i := 14) (by kernel_rfl) rfl (fun K hK => ?_)
                          rw [if_pos (by rfl)]
                          refine wp_alloc_itO HS0.out rfl ?_
                          intro V1 tb ht1
                          have HT1 := Lib.hid ht1
                          have H1_ := Lib.hid (CB2.out _ _ ht1 (by simp))
                          clear ht1
                          refine hK.out _ _ (fun _ => H1_.out) ?_
                          clear hK K
                          try simp only [Act.put, List.getElem_toArray, List.getElem_cons_succ, List.getElem_cons_zero, List.setIfInBounds_toArray, List.set_cons_zero, List.set_cons_succ]
                          refine AnyT.one (i := 15) (by kernel_rfl) rfl (fun K hK => ?_)
                          rw [if_pos (by rfl)]
                          refine wp_store_itO HT1.out 0 (⟨x1.l - 1, PR + (nn : Int)⟩ : It) rfl (.tmp 14) (.tmp 100) rfl rfl rfl ?_
                          intro V2 ht2
                          have HT2 := Lib.hid ht2
                          clear ht2
                          refine hK.out _ _ (fun h => absurd rfl h) ?_
                          clear hK K
                          try simp only [Act.put, List.getElem_toArray, List.getElem_cons_succ, List.getElem_cons_zero, List.setIfInBounds_toArray, List.set_cons_zero, List.set_cons_succ]
                          refine AnyT.done (by kernel_rfl) ?_ _
                          have h5 := HT2.out
                          clear HS0 HT1 HT2 H0 H1_ CB2
                          generalize (⟨x1.l - 1, PR + (nn : Int)⟩ : It) = Z at *
                          have q7 : World.rangeAt _ tb 0 (Elt.cs Z) := at_it (h5.get 0 rfl)
                          go_wp2_with (first
                            | (have _ := q7; refine wpList_loadIt (e := Z) q7 _ rfl rfl rfl ?_; clear q7)
                            | (have _ := h5; go_at_call 20; refine (FX.out _ h5.bel).mono ?_; rintro e Y3 ⟨rfl, hb⟩; have h6 := h5.call hb; clear h5 hb FX; have qa : Y3.rangeAt tb 0 (Elt.cs Z) := at_it (h6.get 0 rfl))
                            | (have _ := qa; refine wpList_loadIt (e := Z) qa _ rfl rfl rfl ?_; clear qa)
                            | (have _ := h6; refine wpList_store_it h6 1 Z rfl _ _ rfl rfl rfl rfl ?_; clear h6; intro Y4 h7 _))
                          replace h7 : St W Y4 [(tb, C 42 Z.arr), (xb, C 42 c.it.arr), (rb, C 42 zit.arr)] := by rw [he.out]; exact h7
                          go_roundw
                          case rel => exact ⟨nn + 1, by omega, by go_num, .inr ⟨rfl, c, HK.out, h7.tail⟩⟩
                          case measure => simp [intOf]; omega
                      · obtain rfl : nn = a := by omega
                        have g3 : ((nn : Int) < (nn : Int)) = False := eq_false (by omega)
                        have EB := Lib.hid (show x1 = T by rw [← hB.out, BN.out x1 (KAx.out hnone.out)])
                        have qf : World.rangeAt _ xb 0 (Elt.cs x1) := at_it (hs4.get 0 rfl)
                        go_wp2_with (first
                          | (have _ := qf; refine wpList_loadIt (e := x1) qf _ rfl rfl rfl ?_; clear qf)
                          | (have _ := hs4; refine wpList_store_it hs4 1 x1 rfl _ _ rfl rfl rfl rfl ?_; clear hs4; intro X6 h6 _))
                        try rw [Exit.noGoto_ret]
                        refine bodyPost_ret (results_cell_tmp Try.results18 _ _ _ rfl _ (load_itA (h6.get 1 rfl))) rfl ?_
                        exact ⟨by rw [EI.out, ← EB.out]; rfl, h6.bel⟩
                    · have d4 := (BK.out _ hs4.bel).2.2.1
                      have BSx := BS.out x1 c hkid
                      have hcm := IT.out c (KM.out x1 c hkid)
                      have MSx := Lib.hid (show c.it.l.toNat + 1 < gk by have := hf.out; omega)
                      have RLx := Lib.hid (show isIt p c.it = true ∧ beneath p ys c.it = T from ⟨hcm, by rw [← BSx.1]; exact hB.out⟩)
                      clear BSx hcm hkid
                      by_cases hnt : nn < a
                      · have g3 : ((nn : Int) < (a : Int)) = True := eq_true (by omega)
                        go_wp2
                        go_roundg (c.it.l.toNat + 1)
                        case measure => exact MSx.out
                        case rel => exact ⟨c.it, hs4, RLx.out.1, RLx.out.2, Nat.le_refl _⟩
                      · obtain rfl : nn = a := by omega
                        have g3 : ((nn : Int) < (nn : Int)) = False := eq_false (by omega)
                        go_wp2
                        go_roundg (c.it.l.toNat + 1)
                        case measure => exact MSx.out
                        case rel => exact ⟨c.it, hs4, RLx.out.1, RLx.out.2, Nat.le_refl _⟩
                · have q4 : (x1.l > 0) = False := eq_false h0
                  have q4b : (0 < x1.l) = False := eq_false h0
                  have EB := Lib.hid (show x1 = T by rw [← hB.out, BZ.out x1 (by omega)])
                  have qf : World.rangeAt _ xb 0 (Elt.cs x1) := at_it (hs3.get 0 rfl)
                  go_wp2_with (first
                    | (have _ := qf; refine wpList_loadIt (e := x1) qf _ rfl rfl rfl ?_; clear qf)
                    | (have _ := hs3; refine wpList_store_it hs3 1 x1 rfl _ _ rfl rfl rfl rfl ?_; clear hs3; intro X6 h6 _))
                  try rw [Exit.noGoto_ret]
                  refine bodyPost_ret (results_cell_tmp Try.results18 _ _ _ rfl _ (load_itA (h6.get 1 rfl))) rfl ?_
                  exact ⟨by rw [EI.out, ← EB.out]; rfl, h6.bel⟩
          · have q4 : (y.bk = k) = False := eq_false hbk
            have q5 : (y.bk == k) = false := by simpa using hbk
            have q6 : (y.bk != k) = true := by simpa using hbk
            rw [q5] at gd
            have NX := Lib.hid (NXT.out gd)
            have hs3 := hs2
            clear hs2
            go_wp2
            go_roundw
            case rel => exact ⟨j + 1, by rw [hn.out]; omega, by go_num, NX.out, hs3⟩
            case measure => simp [intOf]; omega
    · obtain rfl : j = n := by omega
      have g1 : ((j : Int) < (j : Int)) = False := eq_false (by omega)
      have vc := N0.out (by have := hno.out; exact this)
      subst vc
      have EI : Hid (VI = zit) := EI0
      go_wp2_with (first
        | (refine wpList_build_aq 42 [] rfl rfl zit.arr (by exact built42) ?_)
        | (have _ := hst; refine wpList_store_it hst 0 zit rfl _ _ rfl rfl rfl rfl ?_; clear hst; intro X6 h6 _))
      try rw [Exit.noGoto_ret]
      refine bodyPost_ret (results_cell_tmp Try.results18 _ _ _ rfl _ (load_itA (h6.get 0 rfl))) rfl ?_
      exact ⟨by rw [EI.out]; rfl, h6.bel⟩
end
end Go.Proofs.Ytnogmfpaipjdaaa
