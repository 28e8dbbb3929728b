/- A value is kept; it is used last. No statement is proved here. -/
import Derived.Test.YtmlepikgiicaiaaMeth4
namespace Go.Proofs.Ytmlepikgiicaiaa
open Go.RowKit
set_option linter.unusedVariables false
set_option linter.unusedSimpArgs false

/-- The sets with a value put, the last one of its set. -/
def putC (c : Cs) (k v : Int) : Cs := (dropC c k).set (plc c k) (sof (dropC c k) k ++ [⟨k, v⟩])
/-- What Set answers. -/
def setK (n : Nat) (c : Cs) (k : Int) : Int := if k < 0 then 1 else if room n c k = true then 0 else 5
def setC (n : Nat) (c : Cs) (k v : Int) : Cs := if k < 0 then c else if room n c k = true then putC c k v else c
/-- What Touch leaves. -/
def touchC (c : Cs) (k : Int) : Cs := if getO c k = true then putC c k (getV c k) else c
theorem dropC_len (c : Cs) (k : Int) : (dropC c k).length = c.length := by
  unfold dropC
  split
  · exact List.length_set
  · rfl
theorem putC_len (c : Cs) (k v : Int) : (putC c k v).length = c.length := by
  unfold putC
  rw [List.length_set, dropC_len]
theorem plc_drop (c : Cs) (k j : Int) : plc (dropC c k) j = plc c j := by unfold plc; rw [dropC_len]
theorem getO_nn {c : Cs} {k : Int} (h : getO c k = true) : 0 ≤ k := by
  rcases Int.lt_or_le k 0 with h0 | h0
  · unfold getO at h
    rw [sof_neg h0] at h
    cases h
  · exact h0
theorem getO_room {n : Nat} {c : Cs} {k : Int} (h : getO c k = true) : room n c k = true := by
  have := getO_nn h
  unfold room
  rw [h, decide_eq_true this]
  simp
section
variable {w W W' : World} {g b n : Nat} {c : Cs} {L M : Blks}
set_option maxRecDepth 20000 in
set_option maxHeartbeats 2000000 in
theorem set_any (h : WC w W g b n c L) (k vv : Int) (hk : k ≤ 9223372036854775807) (hn : n ≤ 64) (hl : (sof (dropC c k) k).length ≤ 1000) :
    Calls Try.prog 10 #[.pointer (some ⟨g, 0, none⟩), .int .i64 k, .int .i64 vv] W fun e W' => e = .returned (.int .i64 (setK n c k)) ∧ WC w W' g b n (setC n c k vv) L := by
  have RO := Lib.hid (fun W L (h : WC w W g b n c L) => room_any h k hk hn)
  have DR := Lib.hid (fun W L (h : WC w W g b n c L) => drop_any h k hk)
  by_cases h0 : k < 0
  · have q : (k < 0) = True := eq_true h0
    have e1 : Hid (setK n c k = 1) := show _ = _ by unfold setK; rw [if_pos h0]
    have e2 : Hid (setC n c k vv = c) := show _ = _ by unfold setC; rw [if_pos h0]
    generalize setK n c k = E1 at *
    generalize setC n c k vv = E2 at *
    go_enter Try.func10, Try.ntmps10
    go_wp2
    go_ret
    exact ⟨by rw [e1.out]; rfl, by rw [e2.out]; exact h⟩
  have q : (k < 0) = False := eq_false h0
  cases hR : room n c k with
  | false =>
    have e1 : Hid (setK n c k = 5) := show _ = _ by unfold setK; rw [if_neg h0, hR]; rfl
    have e2 : Hid (setC n c k vv = c) := show _ = _ by unfold setC; rw [if_neg h0, hR]; rfl
    rw [hR] at RO
    generalize setK n c k = E1 at *
    generalize setC n c k vv = E2 at *
    clear hR
    go_enter Try.func10, Try.ntmps10
    go_wp2_with (go_at_call 23; refine (RO.out _ _ h).mono ?_; rintro e W2 ⟨rfl, hb⟩; replace h := h.call hb)
    go_ret
    exact ⟨by rw [e1.out]; rfl, by rw [e2.out]; exact h⟩
  | true =>
  have e1 : Hid (setK n c k = 0) := show _ = _ by unfold setK; rw [if_neg h0, hR]; rfl
  have e2 : Hid (setC n c k vv = putC c k vv) := show _ = _ by unfold setC; rw [if_neg h0, hR]; rfl
  rw [hR] at RO
  generalize setK n c k = E1 at *
  generalize setC n c k vv = E2 at *
  clear hR
  unfold putC at e2
  have hdl := dropC_len c k
  obtain ⟨a, rfl⟩ : ∃ a : Nat, k = (a : Int) := ⟨k.toNat, by omega⟩
  have s1 : 1 ≤ (dropC c (a : Int)).length := by rw [hdl]; exact h.pos
  have s2 : (dropC c (a : Int)).length ≤ 64 := by rw [hdl]; exact h.s64
  have PL := Lib.hid (fun W c1 => place_any g b (dropC c (a : Int)).length a s1 s2 (by omega) W c1)
  have e : a % (dropC c (a : Int)).length = plc c (a : Int) := by rw [hdl]; unfold plc; rw [Int.toNat_natCast]
  rw [e] at PL
  have hlt : plc c (a : Int) < (dropC c (a : Int)).length := by rw [hdl]; exact plc_lt h.pos _
  have OP := Lib.hid (fun W (h : WC w W g b n (dropC c (a : Int)) L) => h.open_ _ hlt)
  rw [sof_nat, plc_drop] at hl e2
  generalize dropC c (a : Int) = c' at *
  have ex : ∀ xs : List Ent, xs = c'.getD (plc c (a : Int)) [] → c'.getD (plc c (a : Int)) [] = xs := fun xs h => h.symm
  generalize c'.getD (plc c (a : Int)) [] = xs at *
  generalize plc c (a : Int) = i at *
  have i1 : (i : Int) < (c'.length : Int) := by omega
  have i2 : i ≤ 64 := by omega
  generalize hSn : c'.length = Sn at *
  have HLE := Lib.hid (show xs.length + 1 ≤ 100000 by omega)
  clear ex e hl hdl
  go_enter Try.func10, Try.ntmps10
  go_wp2_with (first
    | (have _ := h; go_at_call 23; refine (RO.out _ _ h).mono ?_; rintro e W2 ⟨rfl, hb⟩; have h2 := h.call hb; clear h hb)
    | (have _ := h2; go_at_call 12; refine (DR.out _ _ h2).mono ?_; clear h2; rintro e W3 ⟨rfl, h3⟩; have c1 := h3.c1; rw [hSn] at c1)
    | (have _ := h3; go_at_call 27; refine (PL.out _ c1).mono ?_; rintro e X1 ⟨rfl, rfl⟩))
  obtain ⟨v, M, Z, vs, hr, hv, hs, up⟩ := OP.out _ (show WC w X1.drew g b n c' L from h3.drewN 1)
  obtain ⟨A, p, rfl, _⟩ := hr.form
  generalize hT : Z ++ L = T at *
  have HI := Lib.hid (show i < vs.toArray.size from by have := (List.getElem?_eq_some_iff.1 hv).1; simpa using this)
  have CB := Lib.hid (fun (V : World) (X : Blks) (hs : St w V X) (m1 : (g, C 54 (carr n b Sn)) ∈ X) (m2 : (b, C 55 vs.toArray) ∈ X) => show V.cell? ⟨g, 1, none⟩ = some (.slice (some ⟨b, 0, none⟩) Sn Sn) ∧ V.cell? ⟨b, i, none⟩ = some (.slice A xs.length p) from by
    have a1 : At V g 54 (carr n b Sn) := hs.at_ _ m1
    have a2 : At V b 55 vs.toArray := hs.at_ _ m2
    exact ⟨a1.cell 1, (a2.cell i).trans (by simpa using hv)⟩)
  have UP := Lib.hid (fun (V : World) v' xs' M' (hr : RL v' xs' M') (h : St w V ((g, C 54 (carr n b Sn)) :: (b, C 55 (vs.set i v').toArray) :: (M' ++ T))) => up V v' xs' M' L hr (by rw [hT]; exact h.perm (List.perm_append_comm_assoc M' [_, _] T).symm))
  have HS0 := Lib.hid hs
  have HR := Lib.hid hr
  have H0 := Lib.hid (CB.out _ _ hs (by simp) (by simp))
  generalize hLN : xs.length = LN at *
  clear hs hr hv up h3 c1 OP
  refine wp_region_last (fun W => W.cell? ⟨g, 1, none⟩ = some (.slice (some ⟨b, 0, none⟩) Sn Sn) ∧ W.cell? ⟨b, i, none⟩ = some (.slice A LN p)) 18 (by kernel_rfl) ?_
  generalize X1.drew = V0 at *
  refine AnyT.take (i := 0) (v := .pointer (some ⟨g, 0, none⟩)) rfl (by kernel_rfl) (by kernel_rfl) (by kernel_rfl) (by kernel_rfl) (by decide) (fun _ _ _ h => h) (Or.inl ⟨by rfl, fun W hW => by clear hW; go_simp⟩) H0.out ?_
  try simp only [Act.put, List.getElem_toArray, List.getElem_cons_succ, List.getElem_cons_zero, List.setIfInBounds_toArray, List.set_cons_zero, List.set_cons_succ]
  refine AnyT.take (i := 1) (v := .pointer (some ⟨g, 0, none⟩)) rfl (by kernel_rfl) (by kernel_rfl) (by kernel_rfl) (by kernel_rfl) (by decide) (fun _ _ _ h => h) (Or.inl ⟨by rfl, fun W hW => by clear hW; go_simp⟩) H0.out ?_
  try simp only [Act.put, List.getElem_toArray, List.getElem_cons_succ, List.getElem_cons_zero, List.setIfInBounds_toArray, List.set_cons_zero, List.set_cons_succ]
  refine AnyT.take (i := 2) (v := .pointer (some ⟨g, 1, none⟩)) rfl (by kernel_rfl) (by kernel_rfl) (by kernel_rfl) (by kernel_rfl) (by decide) (fun _ _ _ h => h) (Or.inl ⟨by rfl, fun W hW => by clear hW; go_simp⟩) H0.out ?_
  try simp only [Act.put, List.getElem_toArray, List.getElem_cons_succ, List.getElem_cons_zero, List.setIfInBounds_toArray, List.set_cons_zero, List.set_cons_succ]
  refine AnyT.take (i := 3) (v := .slice (some ⟨b, 0, none⟩) Sn Sn) rfl (by kernel_rfl) (by kernel_rfl) (by kernel_rfl) (by kernel_rfl) (by decide) (fun _ _ _ h => h) (Or.inl ⟨by rfl, fun W hW => by have hc := (show W.cell? ⟨g, 1, none⟩ = some (.slice (some ⟨b, 0, none⟩) Sn Sn) from hW.1); clear hW; go_simp⟩) H0.out ?_
  try simp only [Act.put, List.getElem_toArray, List.getElem_cons_succ, List.getElem_cons_zero, List.setIfInBounds_toArray, List.set_cons_zero, List.set_cons_succ]
  refine AnyT.take (i := 4) (v := .int .i64 (i : Int)) rfl (by kernel_rfl) (by kernel_rfl) (by kernel_rfl) (by kernel_rfl) (by decide) (fun _ _ _ h => h) (Or.inl ⟨by rfl, fun W hW => by clear hW; go_simp⟩) H0.out ?_
  try simp only [Act.put, List.getElem_toArray, List.getElem_cons_succ, List.getElem_cons_zero, List.setIfInBounds_toArray, List.set_cons_zero, List.set_cons_succ]
  refine AnyT.take (i := 5) (v := .pointer (some ⟨g, 0, none⟩)) rfl (by kernel_rfl) (by kernel_rfl) (by kernel_rfl) (by kernel_rfl) (by decide) (fun _ _ _ h => h) (Or.inl ⟨by rfl, fun W hW => by clear hW; go_simp⟩) H0.out ?_
  try simp only [Act.put, List.getElem_toArray, List.getElem_cons_succ, List.getElem_cons_zero, List.setIfInBounds_toArray, List.set_cons_zero, List.set_cons_succ]
  refine AnyT.take (i := 6) (v := .pointer (some ⟨g, 0, none⟩)) rfl (by kernel_rfl) (by kernel_rfl) (by kernel_rfl) (by kernel_rfl) (by decide) (fun _ _ _ h => h) (Or.inl ⟨by rfl, fun W hW => by clear hW; go_simp⟩) H0.out ?_
  try simp only [Act.put, List.getElem_toArray, List.getElem_cons_succ, List.getElem_cons_zero, List.setIfInBounds_toArray, List.set_cons_zero, List.set_cons_succ]
  refine AnyT.take (i := 7) (v := .pointer (some ⟨g, 1, none⟩)) rfl (by kernel_rfl) (by kernel_rfl) (by kernel_rfl) (by kernel_rfl) (by decide) (fun _ _ _ h => h) (Or.inl ⟨by rfl, fun W hW => by clear hW; go_simp⟩) H0.out ?_
  try simp only [Act.put, List.getElem_toArray, List.getElem_cons_succ, List.getElem_cons_zero, List.setIfInBounds_toArray, List.set_cons_zero, List.set_cons_succ]
  refine AnyT.take (i := 8) (v := .slice (some ⟨b, 0, none⟩) Sn Sn) rfl (by kernel_rfl) (by kernel_rfl) (by kernel_rfl) (by kernel_rfl) (by decide) (fun _ _ _ h => h) (Or.inl ⟨by rfl, fun W hW => by have hc := (show W.cell? ⟨g, 1, none⟩ = some (.slice (some ⟨b, 0, none⟩) Sn Sn) from hW.1); clear hW; go_simp⟩) H0.out ?_
  try simp only [Act.put, List.getElem_toArray, List.getElem_cons_succ, List.getElem_cons_zero, List.setIfInBounds_toArray, List.set_cons_zero, List.set_cons_succ]
  refine AnyT.take (i := 9) (v := .int .i64 (i : Int)) rfl (by kernel_rfl) (by kernel_rfl) (by kernel_rfl) (by kernel_rfl) (by decide) (fun _ _ _ h => h) (Or.inl ⟨by rfl, fun W hW => by clear hW; go_simp⟩) H0.out ?_
  try simp only [Act.put, List.getElem_toArray, List.getElem_cons_succ, List.getElem_cons_zero, List.setIfInBounds_toArray, List.set_cons_zero, List.set_cons_succ]
  refine AnyT.take (i := 10) (v := .pointer (some ⟨b, i, none⟩)) rfl (by kernel_rfl) (by kernel_rfl) (by kernel_rfl) (by kernel_rfl) (by decide) (fun _ _ _ h => h) (Or.inl ⟨by rfl, fun W hW => by clear hW; go_simp⟩) H0.out ?_
  try simp only [Act.put, List.getElem_toArray, List.getElem_cons_succ, List.getElem_cons_zero, List.setIfInBounds_toArray, List.set_cons_zero, List.set_cons_succ]
  refine AnyT.take (i := 11) (v := .slice A LN p) rfl (by kernel_rfl) (by kernel_rfl) (by kernel_rfl) (by kernel_rfl) (by decide) (fun _ _ _ h => h) (Or.inl ⟨by rfl, fun W hW => by have hc := (show W.cell? ⟨b, i, none⟩ = some (.slice A LN p) from hW.2); clear hW; go_simp⟩) H0.out ?_
  try simp only [Act.put, List.getElem_toArray, List.getElem_cons_succ, List.getElem_cons_zero, List.setIfInBounds_toArray, List.set_cons_zero, List.set_cons_succ]
  refine AnyT.take (i := 12) (v := .int .i64 (a : Int)) rfl (by kernel_rfl) (by kernel_rfl) (by kernel_rfl) (by kernel_rfl) (by decide) (fun _ _ _ h => h) (Or.inl ⟨by rfl, fun W hW => by clear hW; go_simp⟩) H0.out ?_
  try simp only [Act.put, List.getElem_toArray, List.getElem_cons_succ, List.getElem_cons_zero, List.setIfInBounds_toArray, List.set_cons_zero, List.set_cons_succ]
  refine AnyT.take (i := 13) (v := .int .i64 vv) rfl (by kernel_rfl) (by kernel_rfl) (by kernel_rfl) (by kernel_rfl) (by decide) (fun _ _ _ h => h) (Or.inl ⟨by rfl, fun W hW => by clear hW; go_simp⟩) H0.out ?_
  try simp only [Act.put, List.getElem_toArray, List.getElem_cons_succ, List.getElem_cons_zero, List.setIfInBounds_toArray, List.set_cons_zero, List.set_cons_succ]
  refine AnyT.take (i := 14) (v := .agg #[.int .i64 (a : Int), .int .i64 vv]) rfl (by kernel_rfl) (by kernel_rfl) (by kernel_rfl) (by kernel_rfl) (by decide) (fun _ _ _ h => h) (Or.inl ⟨by rfl, fun W hW => by clear hW; go_simp⟩) H0.out ?_
  try simp only [Act.put, List.getElem_toArray, List.getElem_cons_succ, List.getElem_cons_zero, List.setIfInBounds_toArray, List.set_cons_zero, List.set_cons_succ]
  refine AnyT.one (i := 15) (by kernel_rfl) rfl (fun K hK => ?_)
  rw [if_pos (by rfl)]
  refine wp_build1_st HS0.out (.tmp 34) (⟨(a : Int), vv⟩ : Ent) rfl rfl ?_
  intro V1 h1
  have H1_ := Lib.hid (CB.out V1 _ h1 (by simp) (by simp))
  generalize V0.heap.size = nb at *
  have HS1 := Lib.hid h1
  clear h1
  refine hK.out _ _ (fun _ => H1_.out) ?_
  clear hK K
  try simp only [Act.put, List.getElem_toArray, List.getElem_cons_succ, List.getElem_cons_zero, List.setIfInBounds_toArray, List.set_cons_zero, List.set_cons_succ]
  refine AnyT.one (i := 16) (by kernel_rfl) rfl (fun K hK => ?_)
  rw [if_pos (by rfl)]
  refine wp_append_rl (ys := [(⟨(a : Int), vv⟩ : Ent)]) HR.out (St.swap (X := [_]) HS1.out) (new_row HS1.out) (.tmp 31) (.tmp 35) rfl rfl rfl (by rw [hLN]; exact HLE.out) ?_
  intro v1 V2 M1 hr1 h2
  have H2_ := Lib.hid (CB.out V2 _ h2 (by simp) (by simp))
  have HR1 := Lib.hid hr1
  have HS2 := Lib.hid h2
  clear h2 hr1
  refine hK.out _ _ (fun _ => H2_.out) ?_
  clear hK K
  try simp only [Act.put, List.getElem_toArray, List.getElem_cons_succ, List.getElem_cons_zero, List.setIfInBounds_toArray, List.set_cons_zero, List.set_cons_succ]
  refine AnyT.take (i := 17) (v := .pointer (some ⟨b, i, none⟩)) rfl (by kernel_rfl) (by kernel_rfl) (by kernel_rfl) (by kernel_rfl) (by decide) (fun _ _ _ h => h) (Or.inl ⟨by rfl, fun W hW => by clear hW; go_simp⟩) H2_.out ?_
  try simp only [Act.put, List.getElem_toArray, List.getElem_cons_succ, List.getElem_cons_zero, List.setIfInBounds_toArray, List.set_cons_zero, List.set_cons_succ]
  refine AnyT.one (i := 18) (by kernel_rfl) rfl (fun K hK => ?_)
  rw [if_pos (by rfl)]
  refine wp_cell_st (HS2.out.perm (List.perm_append_comm_assoc M1 [_, _, _] T)) 2 rfl 55 (.tmp 37) (.tmp 36) rfl i v1 rfl rfl HI.out (rl_cells HR1.out).1 (rl_cells HR1.out).2 sz55 ?_
  intro V3 hs3
  have HS3 := Lib.hid hs3
  clear hs3
  refine hK.out _ _ (fun h => absurd rfl h) ?_
  clear hK K
  try simp only [Act.put, List.getElem_toArray, List.getElem_cons_succ, List.getElem_cons_zero, List.setIfInBounds_toArray, List.set_cons_zero, List.set_cons_succ]
  refine AnyT.done (by kernel_rfl) ?_ _
  go_wp2
  go_ret
  refine ⟨by rw [e1.out]; rfl, ?_⟩
  rw [e2.out]
  exact UP.out _ _ _ _ HR1.out (by have := HS3.out.tail; simpa using this)
theorem touch_any (h : WC w W g b n c L) (k : Int) (hk : k ≤ 9223372036854775807) (hn : n ≤ 64) (hl : (sof (dropC c k) k).length ≤ 1000) :
    Calls Try.prog 14 #[.pointer (some ⟨g, 0, none⟩), .int .i64 k] W fun e W' => e = .returned (.bool (getO c k)) ∧ WC w W' g b n (touchC c k) L := by
  have GE := Lib.hid (fun W L (h : WC w W g b n c L) => get_any h k hk)
  have SE := Lib.hid (fun W L (h : WC w W g b n c L) v => set_any h k v hk hn hl)
  cases hO : getO c k with
  | false =>
    have e2 : Hid (touchC c k = c) := show _ = _ by unfold touchC; rw [hO]; rfl
    rw [hO] at GE
    clear hO SE
    generalize touchC c k = D at *
    go_enter Try.func14, Try.ntmps14
    go_wp2_with (go_at_call 16; refine (GE.out _ _ h).mono ?_; rintro e W2 ⟨rfl, hb⟩; replace h := h.call hb)
    go_ret
    exact ⟨rfl, by rw [e2.out]; exact h⟩
  | true =>
    have e2 : Hid (touchC c k = setC n c k (getV c k)) := show _ = _ by
      have h0 := getO_nn hO
      unfold touchC setC
      rw [if_pos hO, if_neg (by omega), if_pos (getO_room hO)]
    rw [hO] at GE
    clear hO
    generalize touchC c k = D at *
    generalize getV c k = V at *
    go_enter Try.func14, Try.ntmps14
    go_wp2_with (first
      | (have _ := h; go_at_call 16; refine (GE.out _ _ h).mono ?_; rintro e W2 ⟨rfl, hb⟩; have h2 := h.call hb; clear h)
      | (have _ := h2; go_at_call 10; refine (SE.out _ _ h2 _).mono ?_; clear h2; rintro e W3 ⟨rfl, h3⟩))
    go_ret
    exact ⟨rfl, by rw [e2.out]; exact h3⟩
end
end Go.Proofs.Ytmlepikgiicaiaa
