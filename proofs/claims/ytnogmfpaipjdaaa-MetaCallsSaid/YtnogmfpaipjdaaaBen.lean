/- What is beneath a cached item, and is cached. No statement is proved here. -/
import Derived.Test.YtnogmfpaipjdaaaConcat
import Derived.WalkMore
import Derived.Deep.CutRange
namespace Go.Proofs.Ytnogmfpaipjdaaa
open Go.RowKit
open P (Pl right hasI vals)
set_option maxRecDepth 20000
set_option linter.unusedVariables false
set_option linter.unusedSimpArgs false

/-- The first one of a row that is right beneath an item. -/
def isKid (p : Pl) (x : It) (c : Cd) : Bool := hasUp p c.it && decide (upI p c.it = x)
def kid (p : Pl) (ys : List Cd) (x : It) : Option Cd := ys.find? (isKid p x)
def dn (p : Pl) (ys : List Cd) : Nat → It → It
  | 0, x => x
  | n + 1, x => match kid p ys x with
    | some c => dn p ys n c.it
    | none => x
def beneath (p : Pl) (ys : List Cd) (x : It) : It := dn p ys (x.l.toNat + 1) x
theorem isKid_l {p : Pl} {x : It} {c : Cd} (h : isKid p x c = true) : 0 ≤ c.it.l ∧ x.l = c.it.l + 1 := by
  unfold isKid at h
  rw [Bool.and_eq_true, decide_eq_true_eq] at h
  obtain ⟨h1, rfl⟩ := h
  obtain ⟨_, h2, _, h3, _⟩ := hasUp_facts h1
  exact ⟨h2, h3⟩
theorem ben_none {p : Pl} {ys : List Cd} {x : It} (h : kid p ys x = none) : beneath p ys x = x := by
  unfold beneath dn
  rw [h]
theorem ben_some {p : Pl} {ys : List Cd} {x : It} {c : Cd} (h : kid p ys x = some c) : beneath p ys x = beneath p ys c.it ∧ c.it.l.toNat + 1 = x.l.toNat := by
  have := isKid_l (List.find?_some h)
  have e : c.it.l.toNat + 1 = x.l.toNat := by omega
  refine ⟨?_, e⟩
  unfold beneath
  rw [e]
  conv => lhs; unfold dn
  rw [h]
theorem kid_none {p : Pl} {ys : List Cd} {x : It} (h : ∀ i c, i < ys.length → ys[i]? = some c → isKid p x c = false) : kid p ys x = none := by
  unfold kid
  rw [List.find?_eq_none]
  intro c hc
  obtain ⟨i, hi⟩ := List.getElem?_of_mem hc
  rw [h i c (List.getElem?_eq_some_iff.1 hi).1 hi]
  simp
theorem kid_some {p : Pl} {ys : List Cd} {x : It} {j : Nat} {c : Cd} (hc : ys[j]? = some c) (hk : isKid p x c = true) (h : ∀ i c, i < j → ys[i]? = some c → isKid p x c = false) : kid p ys x = some c := by
  unfold kid
  rw [split_at hc, List.find?_append, List.find?_eq_none.2, Option.none_or, List.find?_cons, hk]
  intro d hd
  obtain ⟨i, hi⟩ := List.getElem?_of_mem hd
  rw [List.getElem?_take] at hi
  split at hi
  · rename_i hlt
    rw [h i d hlt hi]
    simp
  · cases hi
section
variable {ops : Array Oper} {rest : List Oper} {o : Oper} {a : Act} {w W : World} {K : Act → World → Prop} {Q : Exit → Act → World → Prop} {L : Blks}
theorem wp_alloc_itO (h : St w W L) (ho : o.op = .alloc 42)
    (k : ∀ W' g, St w W' ((g, C 42 zit.arr) :: L) → K (a.put o.dst (.pointer (some ⟨g, 0, none⟩))) W') : o.wp Try.prog a W K Q := by
  have h1 := k _ W.heap.size (h.push 42 zit.arr).front
  unfold Oper.wp execOp
  simp only [ho, Instr.alloc, Sem.run_bind, zero42, Result.andThen_ok, Value.cells]
  go_simp
  exact h1
end
def BoRel (W : World) (p : Pl) (ys : List Cd) (M : Blks) (rb xb : Nat) (T : It) (f : Nat) (wr : World) : Prop :=
  ∃ x : It, St W wr ((rb, C 42 zit.arr) :: (xb, C 42 x.arr) :: M) ∧ beneath p ys x = T ∧ x.l.toNat + 1 ≤ f
def BiRel (W : World) (p : Pl) (ys : List Cd) (M : Blks) (rb xb : Nat) (x : It) (i : Value) (wr : World) : Prop :=
  ∃ j : Nat, j ≤ ys.length ∧ i = .int .i64 (j : Nat) ∧ (∀ i c, i < j → ys[i]? = some c → isKid p x c = false) ∧ St W wr ((rb, C 42 zit.arr) :: (xb, C 42 x.arr) :: M)
attribute [local irreducible] It.arr Cd.arr beneath
section
variable {w W W' : World} {g b : Nat} {p : Pl} {l : List Cd} {L M : Blks}
set_option maxHeartbeats 4000000 in
theorem beneath_any (h : MC w W g b p l L) (I : Inv p l) (hl : l.length ≤ 1000) (x : It) :
    Calls Try.prog 39 #[.pointer (some ⟨g, 0, none⟩), .agg x.arr] W fun e W' => ∃ ys, IsAll l ys ∧ e = .returned (.agg (beneath p ys x).arr) ∧ Below W.heap.size W W' := by
  have AL := Lib.hid (fun V (h : MC w V g b p l L) => all_any h I hl)
  have PA := Lib.hid (fun x V => parentP_any p x V)
  have S0 := St.nil W
  have glt := Lib.hid h.glt
  have HP := Lib.hid h.plan
  have HH := Lib.hid h
  have IL := Lib.hid hl
  clear h
  go_enter Try.func39, Try.ntmps39
  go_wp2_with (first
    | (refine wpList_box_it S0 x _ rfl rfl rfl ?_; clear S0; intro W1 h1 _; generalize hxb : W.heap.size = xb at h1 ⊢)
    | (have _ := h1; refine wpList_alloc_it h1 rfl rfl ?_; clear h1; intro W2 h2 _; have hm := HH.out.call h2.bel; generalize W1.heap.size = rb at *))
  go_step3
  go_wp2_with (first
    | (have _ := hm; go_at_call 24; refine (AL.out _ hm).mono ?_; rintro e W3 ⟨v, M, ys, rfl, hr, hA, hst⟩; have h3 := (h2.join hst).perm List.perm_append_comm; clear h2 hm hst))
  go_step3
  go_wp2
  obtain ⟨A, q, rfl, _⟩ := hr.form
  have mx : ys.length ≤ 9223372036854775807 := by have h1 := hA.1.length_eq; have := IL.out; omega
  replace hA := Lib.hid hA
  replace hr := Lib.hid hr
  obtain ⟨T, hT⟩ : ∃ T, T = beneath p ys x := ⟨_, rfl⟩
  replace hT := Lib.hid hT
  clear hxb
  go_loopg [] (x.l.toNat + 1) (fun f wr => BoRel W p ys M rb xb T f wr)
  case atStart => exact ⟨x, h3, hT.out.symm, Nat.le_refl _⟩
  case round =>
    obtain ⟨x1, hst1, hB, hf⟩ := hrel
    clear h3
    replace hB := Lib.hid hB
    replace hf := Lib.hid hf
    go_wp2
    go_loopw [15] (BiRel W p ys M rb xb x1) (fun i _ => ys.length - (intOf i).toNat)
    case atStart => exact ⟨0, by omega, rfl, (fun i c h => absurd h (by omega)), hst1⟩
    case round =>
      obtain ⟨j, hj, rfl, hno, hst2⟩ := hrel
      clear hst1
      replace hno := Lib.hid hno
      by_cases hlt : j < ys.length
      · have g1 : ((j : Int) < (ys.length : Int)) = True := eq_true (by omega)
        have hy : ys[j]? = some ys[j] := List.getElem?_eq_getElem hlt
        generalize ys[j] = y at *
        obtain ⟨bb, o, rfl, hb2, r'⟩ := (hr.out.row (hst2.perm (List.perm_append_comm (l₁ := [_, _]) (l₂ := M))) rfl).at_ j y hy
        replace r' : wr.rangeAt bb (o + j * 36) (Elt.cs y) := r'
        replace hy := Lib.hid hy
        generalize hm : ys.length = m at *
        replace hm := Lib.hid hm
        clear hb2
        go_wp2_with (first
          | (refine wpList_loadCd (e := y) r' _ rfl rfl rfl ?_; clear r')
          | (have _ := hst2; refine wpList_alloc_cd hst2 rfl rfl ?_; clear hst2; intro X1 h1 _; generalize wr.heap.size = yb at *)
          | (have _ := h1; refine wpList_store_cd h1 0 y rfl _ _ rfl rfl rfl rfl ?_; clear h1; intro X2 h2 _))
        obtain ⟨U, hU⟩ : ∃ U, U = upI p y.it := ⟨_, rfl⟩
        obtain ⟨B, hBB⟩ : ∃ B, B = hasUp p y.it := ⟨_, rfl⟩
        obtain ⟨UC, hUC⟩ : ∃ UC, UC = P.upC p y.it.l y.it.x := ⟨_, rfl⟩
        have PX := Lib.hid (show ∀ V, Calls Try.prog 55 #[.agg p.arr, .agg y.it.arr] V fun e W' => e = .returned (.tuple #[.agg U.arr, .int .i64 UC, .bool B]) ∧ Below V.heap.size V W' from fun V => by rw [hU, hBB, hUC]; exact PA.out y.it V)
        have KI := Lib.hid (show isKid p x1 y = (B && decide (U = x1)) by unfold isKid; rw [hU, hBB])
        clear hU hBB hUC
        have CB := Lib.hid (fun (V : World) (X : Blks) (hs : St W V X) (m1 : (yb, C 59 y.arr) ∈ X) => show (loadVar 28 ⟨g, 0, none⟩).run Try.prog V = .ok (.agg p.arr) V ∧ (loadVar 42 ⟨yb, 0, none⟩).run Try.prog V = .ok (.agg y.it.arr) V from
          ⟨load_pl (rangeAt_keep HP.out (hs.bel.block _ glt.out)), load_it (range_it (at_cd (hs.at_ _ m1)))⟩)
        try simp only [Act.put, List.getElem_toArray, List.getElem_cons_succ, List.getElem_cons_zero, List.setIfInBounds_toArray, List.set_cons_zero, List.set_cons_succ]
        go_cut [8, 9, 10] from 19 to 29 (fun s8 s9 s10 wx => ∃ zb : Nat, s8 = .pointer (some ⟨zb, 0, none⟩) ∧ s10 = .bool B ∧ St W wx ((zb, C 42 U.arr) :: (yb, C 59 y.arr) :: (rb, C 42 zit.arr) :: (xb, C 42 x1.arr) :: M))
        case first =>
          have HS0 := Lib.hid h2.drew
          have H0 := Lib.hid (CB.out _ _ HS0.out (by simp))
          clear h2
          refine wp_region_held_drew (S := fun W => (loadVar 28 ⟨g, 0, none⟩).run Try.prog W = .ok (.agg p.arr) W ∧ (loadVar 42 ⟨yb, 0, none⟩).run Try.prog W = .ok (.agg y.it.arr) W) (by kernel_rfl) H0.out (fun _ => ?_)
          generalize X2.drew = V0 at *
          refine wpAnyH_take (i := 0) (v := .pointer (some ⟨g, 0, none⟩)) rfl (by kernel_rfl) (by kernel_rfl) (by kernel_rfl) (fun _ _ _ h => h) (Or.inl ⟨by rfl, fun W hW => by clear hW; go_simp⟩) H0.out ?_
          try simp only [Act.put, List.getElem_toArray, List.getElem_cons_succ, List.getElem_cons_zero, List.setIfInBounds_toArray, List.set_cons_zero, List.set_cons_succ]
          refine wpAnyH_take (i := 1) (v := .pointer (some ⟨g, 0, none⟩)) rfl (by kernel_rfl) (by kernel_rfl) (by kernel_rfl) (fun _ _ _ h => h) (Or.inl ⟨by rfl, fun W hW => by clear hW; go_simp⟩) H0.out ?_
          try simp only [Act.put, List.getElem_toArray, List.getElem_cons_succ, List.getElem_cons_zero, List.setIfInBounds_toArray, List.set_cons_zero, List.set_cons_succ]
          refine wpAnyH_take (i := 2) (v := .pointer (some ⟨g, 0, none⟩)) rfl (by kernel_rfl) (by kernel_rfl) (by kernel_rfl) (fun _ _ _ h => h) (Or.inl ⟨by rfl, fun W hW => by clear hW; go_simp⟩) H0.out ?_
          try simp only [Act.put, List.getElem_toArray, List.getElem_cons_succ, List.getElem_cons_zero, List.setIfInBounds_toArray, List.set_cons_zero, List.set_cons_succ]
          refine wpAnyH_take (i := 3) (v := .agg p.arr) rfl (by kernel_rfl) (by kernel_rfl) (by kernel_rfl) (fun _ _ _ h => h) (yields_run _ rfl (by rfl) rfl (fun W hW => hW.1)) H0.out ?_
          try simp only [Act.put, List.getElem_toArray, List.getElem_cons_succ, List.getElem_cons_zero, List.setIfInBounds_toArray, List.set_cons_zero, List.set_cons_succ]
          refine wpAnyH_take (i := 4) (v := .pointer (some ⟨yb, 0, none⟩)) rfl (by kernel_rfl) (by kernel_rfl) (by kernel_rfl) (fun _ _ _ h => h) (Or.inl ⟨by rfl, fun W hW => by clear hW; go_simp⟩) H0.out ?_
          try simp only [Act.put, List.getElem_toArray, List.getElem_cons_succ, List.getElem_cons_zero, List.setIfInBounds_toArray, List.set_cons_zero, List.set_cons_succ]
          refine wpAnyH_take (i := 5) (v := .agg y.it.arr) rfl (by kernel_rfl) (by kernel_rfl) (by kernel_rfl) (fun _ _ _ h => h) (yields_run _ rfl (by rfl) rfl (fun W hW => hW.2)) H0.out ?_
          try simp only [Act.put, List.getElem_toArray, List.getElem_cons_succ, List.getElem_cons_zero, List.setIfInBounds_toArray, List.set_cons_zero, List.set_cons_succ]
          refine wpAnyH_ready (rs := [6, 11]) (by kernel_rfl) (by simp) ?_
          refine AllReadyH.cons rfl (fun K hK => ?_) (AllReadyH.cons rfl (fun K hK => ?_) AllReadyH.nil)
          · go_simp
            go_at_call 55
            refine (PX.out _).mono ?_
            rintro e V1 ⟨rfl, hb1⟩
            have HS1 := Lib.hid (HS0.out.call hb1)
            clear hb1
            have H1 := Lib.hid (CB.out _ _ HS1.out (by simp))
            refine hK.out _ _ H1.out (fun _ => ?_)
            clear hK K
            try simp only [Act.put, List.getElem_toArray, List.getElem_cons_succ, List.getElem_cons_zero, List.setIfInBounds_toArray, List.set_cons_zero, List.set_cons_succ]
            refine wpAnyH_take (i := 7) (v := .tuple #[.agg U.arr, .int .i64 UC, .bool B]) rfl (by kernel_rfl) (by kernel_rfl) (by kernel_rfl) (fun _ _ _ h => h) (Or.inl ⟨by rfl, fun W hW => by clear hW; go_simp⟩) H1.out ?_
            try simp only [Act.put, List.getElem_toArray, List.getElem_cons_succ, List.getElem_cons_zero, List.setIfInBounds_toArray, List.set_cons_zero, List.set_cons_succ]
            refine wpAnyH_take (i := 8) (v := .agg U.arr) rfl (by kernel_rfl) (by kernel_rfl) (by kernel_rfl) (fun _ _ _ h => h) (Or.inl ⟨by rfl, fun W hW => by clear hW; go_simp⟩) H1.out ?_
            try simp only [Act.put, List.getElem_toArray, List.getElem_cons_succ, List.getElem_cons_zero, List.setIfInBounds_toArray, List.set_cons_zero, List.set_cons_succ]
            refine wpAnyH_take (i := 9) (v := .int .i64 UC) rfl (by kernel_rfl) (by kernel_rfl) (by kernel_rfl) (fun _ _ _ h => h) (Or.inl ⟨by rfl, fun W hW => by clear hW; go_simp⟩) H1.out ?_
            try simp only [Act.put, List.getElem_toArray, List.getElem_cons_succ, List.getElem_cons_zero, List.setIfInBounds_toArray, List.set_cons_zero, List.set_cons_succ]
            refine wpAnyH_take (i := 10) (v := .bool B) rfl (by kernel_rfl) (by kernel_rfl) (by kernel_rfl) (fun _ _ _ h => h) (Or.inl ⟨by rfl, fun W hW => by clear hW; go_simp⟩) H1.out ?_
            try simp only [Act.put, List.getElem_toArray, List.getElem_cons_succ, List.getElem_cons_zero, List.setIfInBounds_toArray, List.set_cons_zero, List.set_cons_succ]
            refine wpAnyH_ready (rs := [11]) (by kernel_rfl) (by simp) ?_
            refine AllReadyH.cons rfl (fun K hK => ?_) AllReadyH.nil
            rw [if_pos (by rfl)]
            refine wp_alloc_itO HS1.out rfl ?_
            intro V2 zb h2
            have HS2 := Lib.hid h2
            clear h2
            have H2 := Lib.hid (CB.out _ _ HS2.out (by simp))
            refine hK.out _ _ H2.out (fun _ => ?_)
            clear hK K
            try simp only [Act.put, List.getElem_toArray, List.getElem_cons_succ, List.getElem_cons_zero, List.setIfInBounds_toArray, List.set_cons_zero, List.set_cons_succ]
            refine wpAnyH_ready (rs := [12]) (by kernel_rfl) (by simp) ?_
            refine AllReadyH.cons rfl (fun K hK => ?_) AllReadyH.nil
            rw [if_pos (by rfl)]
            refine wp_store_itO HS2.out 0 U rfl (.tmp 8) (.tmp 27) rfl rfl rfl ?_
            intro V3 h3
            have HS3 := Lib.hid h3
            clear h3
            have H3 := Lib.hid (CB.out _ _ HS3.out (by simp))
            refine hK.out _ _ H3.out (fun _ => ?_)
            clear hK K
            try simp only [Act.put, List.getElem_toArray, List.getElem_cons_succ, List.getElem_cons_zero, List.setIfInBounds_toArray, List.set_cons_zero, List.set_cons_succ]
            refine wpAnyH_take (i := 13) (v := .int .i64 UC) rfl (by kernel_rfl) (by kernel_rfl) (by kernel_rfl) (fun _ _ _ h => h) (Or.inl ⟨by rfl, fun W hW => by clear hW; go_simp⟩) H3.out ?_
            try simp only [Act.put, List.getElem_toArray, List.getElem_cons_succ, List.getElem_cons_zero, List.setIfInBounds_toArray, List.set_cons_zero, List.set_cons_succ]
            refine wpAnyH_take (i := 14) (v := .bool B) rfl (by kernel_rfl) (by kernel_rfl) (by kernel_rfl) (fun _ _ _ h => h) (Or.inl ⟨by rfl, fun W hW => by clear hW; go_simp⟩) H3.out ?_
            try simp only [Act.put, List.getElem_toArray, List.getElem_cons_succ, List.getElem_cons_zero, List.setIfInBounds_toArray, List.set_cons_zero, List.set_cons_succ]
            refine wpAnyH_done (by kernel_rfl) ?_ _
            go_wp2_with fail
            go_meet
            exact ⟨zb, rfl, rfl, HS3.out⟩
          · rw [if_pos (by rfl)]
            refine wp_alloc_itO HS0.out rfl ?_
            intro V4 zb h4
            have HS4 := Lib.hid h4
            clear h4
            have H4 := Lib.hid (CB.out _ _ HS4.out (by simp))
            refine hK.out _ _ H4.out (fun _ => ?_)
            clear hK K
            try simp only [Act.put, List.getElem_toArray, List.getElem_cons_succ, List.getElem_cons_zero, List.setIfInBounds_toArray, List.set_cons_zero, List.set_cons_succ]
            refine wpAnyH_ready (rs := [6]) (by kernel_rfl) (by simp) ?_
            refine AllReadyH.cons rfl (fun K hK => ?_) AllReadyH.nil
            go_simp
            go_at_call 55
            refine (PX.out _).mono ?_
            rintro e V5 ⟨rfl, hb5⟩
            have HS5 := Lib.hid (HS4.out.call hb5)
            clear hb5
            have H5 := Lib.hid (CB.out _ _ HS5.out (by simp))
            refine hK.out _ _ H5.out (fun _ => ?_)
            clear hK K
            try simp only [Act.put, List.getElem_toArray, List.getElem_cons_succ, List.getElem_cons_zero, List.setIfInBounds_toArray, List.set_cons_zero, List.set_cons_succ]
            refine wpAnyH_take (i := 7) (v := .tuple #[.agg U.arr, .int .i64 UC, .bool B]) rfl (by kernel_rfl) (by kernel_rfl) (by kernel_rfl) (fun _ _ _ h => h) (Or.inl ⟨by rfl, fun W hW => by clear hW; go_simp⟩) H5.out ?_
            try simp only [Act.put, List.getElem_toArray, List.getElem_cons_succ, List.getElem_cons_zero, List.setIfInBounds_toArray, List.set_cons_zero, List.set_cons_succ]
            refine wpAnyH_take (i := 8) (v := .agg U.arr) rfl (by kernel_rfl) (by kernel_rfl) (by kernel_rfl) (fun _ _ _ h => h) (Or.inl ⟨by rfl, fun W hW => by clear hW; go_simp⟩) H5.out ?_
            try simp only [Act.put, List.getElem_toArray, List.getElem_cons_succ, List.getElem_cons_zero, List.setIfInBounds_toArray, List.set_cons_zero, List.set_cons_succ]
            refine wpAnyH_take (i := 9) (v := .int .i64 UC) rfl (by kernel_rfl) (by kernel_rfl) (by kernel_rfl) (fun _ _ _ h => h) (Or.inl ⟨by rfl, fun W hW => by clear hW; go_simp⟩) H5.out ?_
            try simp only [Act.put, List.getElem_toArray, List.getElem_cons_succ, List.getElem_cons_zero, List.setIfInBounds_toArray, List.set_cons_zero, List.set_cons_succ]
            refine wpAnyH_take (i := 10) (v := .bool B) rfl (by kernel_rfl) (by kernel_rfl) (by kernel_rfl) (fun _ _ _ h => h) (Or.inl ⟨by rfl, fun W hW => by clear hW; go_simp⟩) H5.out ?_
            try simp only [Act.put, List.getElem_toArray, List.getElem_cons_succ, List.getElem_cons_zero, List.setIfInBounds_toArray, List.set_cons_zero, List.set_cons_succ]
            refine wpAnyH_ready (rs := [12]) (by kernel_rfl) (by simp) ?_
            refine AllReadyH.cons rfl (fun K hK => ?_) AllReadyH.nil
            rw [if_pos (by rfl)]
            refine wp_store_itO HS5.out 0 U rfl (.tmp 8) (.tmp 27) rfl rfl rfl ?_
            intro V6 h6
            have HS6 := Lib.hid h6
            clear h6
            have H6 := Lib.hid (CB.out _ _ HS6.out (by simp))
            refine hK.out _ _ H6.out (fun _ => ?_)
            clear hK K
            try simp only [Act.put, List.getElem_toArray, List.getElem_cons_succ, List.getElem_cons_zero, List.setIfInBounds_toArray, List.set_cons_zero, List.set_cons_succ]
            refine wpAnyH_take (i := 13) (v := .int .i64 UC) rfl (by kernel_rfl) (by kernel_rfl) (by kernel_rfl) (fun _ _ _ h => h) (Or.inl ⟨by rfl, fun W hW => by clear hW; go_simp⟩) H6.out ?_
            try simp only [Act.put, List.getElem_toArray, List.getElem_cons_succ, List.getElem_cons_zero, List.setIfInBounds_toArray, List.set_cons_zero, List.set_cons_succ]
            refine wpAnyH_take (i := 14) (v := .bool B) rfl (by kernel_rfl) (by kernel_rfl) (by kernel_rfl) (fun _ _ _ h => h) (Or.inl ⟨by rfl, fun W hW => by clear hW; go_simp⟩) H6.out ?_
            try simp only [Act.put, List.getElem_toArray, List.getElem_cons_succ, List.getElem_cons_zero, List.setIfInBounds_toArray, List.set_cons_zero, List.set_cons_succ]
            refine wpAnyH_done (by kernel_rfl) ?_ _
            go_wp2_with fail
            go_meet
            exact ⟨zb, rfl, rfl, HS6.out⟩
        case rest =>
          obtain ⟨zb, rfl, rfl, h5⟩ := hcut
          clear h2 CB PX
          cases B with
          | false =>
            have NX := Lib.hid (show ∀ i c, i < j + 1 → ys[i]? = some c → isKid p x1 c = false from fun i c hi hc => by
              rcases Nat.lt_or_ge i j with q1 | q1
              · exact hno.out i c q1 hc
              · obtain rfl : i = j := by omega
                have e1 := hy.out
                rw [hc] at e1
                injection e1 with e1
                rw [e1, KI.out]; rfl)
            go_wp2
            go_roundw
            case rel => exact ⟨j + 1, by rw [hm.out]; omega, by go_num, NX.out, h5.tail.tail⟩
            case measure => simp [intOf]; omega
          | true =>
            have q1 := (at_it (h5.get 0 rfl) : World.rangeAt _ zb 0 (Elt.cs U))
            have q2 := (at_it (h5.get 3 rfl) : World.rangeAt _ xb 0 (Elt.cs x1))
            have EQ := fun V => eql_it U x1 V
            by_cases hux : U = x1
            · rw [decide_eq_true hux] at EQ
              have KS := Lib.hid (kid_some hy.out (show isKid p x1 y = true by rw [KI.out, decide_eq_true hux]; rfl) hno.out)
              have BS := Lib.hid (ben_some KS.out)
              have q3 := (range_it (at_cd (h5.get 1 rfl)) : World.rangeAt _ yb 0 (Elt.cs y.it))
              replace hux := Lib.hid hux
              go_wp2_with (first
                | (refine wpList_loadIt (e := U) q1 _ rfl rfl rfl ?_; clear q1)
                | (refine wpList_loadIt (e := x1) q2 _ rfl rfl rfl ?_; clear q2)
                | (refine wpList_loadIt (e := y.it) q3 _ rfl rfl rfl ?_; clear q3)
                | (have _ := h5; refine wpList_store_it h5 3 y.it rfl _ _ rfl rfl rfl rfl ?_; clear h5; intro X6 h6 _))
              go_roundg (y.it.l.toNat + 1)
              case measure => have := BS.out.2; have := hf.out; omega
              case rel => exact ⟨y.it, h6.tail.tail, by rw [← BS.out.1]; exact hB.out, Nat.le_refl _⟩
            · rw [decide_eq_false hux] at EQ
              have NX := Lib.hid (show ∀ i c, i < j + 1 → ys[i]? = some c → isKid p x1 c = false from fun i c hi hc => by
                rcases Nat.lt_or_ge i j with q1 | q1
                · exact hno.out i c q1 hc
                · obtain rfl : i = j := by omega
                  have e1 := hy.out
                  rw [hc] at e1
                  injection e1 with e1
                  rw [e1, KI.out, decide_eq_false hux]; rfl)
              replace hux := Lib.hid hux
              go_wp2_with (first
                | (refine wpList_loadIt (e := U) q1 _ rfl rfl rfl ?_; clear q1)
                | (refine wpList_loadIt (e := x1) q2 _ rfl rfl rfl ?_; clear q2))
              go_roundw
              case rel => exact ⟨j + 1, by rw [hm.out]; omega, by go_num, NX.out, h5.tail.tail⟩
              case measure => simp [intOf]; omega
      · obtain rfl : j = ys.length := by omega
        have g1 : ((ys.length : Int) < (ys.length : Int)) = False := eq_false (by omega)
        have KN := Lib.hid (ben_none (kid_none hno.out))
        have q2 : wr.rangeAt xb 0 (Elt.cs x1) := at_it (hst2.get 1 rfl)
        go_wp2_with (first
          | (refine wpList_loadIt (e := x1) q2 _ rfl rfl rfl ?_; clear q2)
          | (have _ := hst2; refine wpList_store_it hst2 0 x1 rfl _ _ rfl rfl rfl rfl ?_; clear hst2; intro X6 h6 _))
        try rw [Exit.noGoto_ret]
        refine bodyPost_ret (P.results_arr Try.results39 _ _ _ rfl _ (load_itA (h6.get 0 rfl))) rfl ?_
        exact ⟨ys, hA.out, by rw [← hT.out, ← hB.out, KN.out], h6.bel⟩
end
end Go.Proofs.Ytnogmfpaipjdaaa
