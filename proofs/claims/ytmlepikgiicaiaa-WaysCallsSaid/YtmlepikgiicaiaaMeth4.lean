/- A value is kept no longer. No statement is proved here. -/
import Derived.Test.YtmlepikgiicaiaaMeth3
namespace Go.Proofs.Ytmlepikgiicaiaa
open Go.RowKit
set_option linter.unusedVariables false
set_option linter.unusedSimpArgs false

/-- The sets without what stands by a number. -/
def dropC (c : Cs) (k : Int) : Cs := match fnd (sof c k) k with | some i => c.set (plc c k) ((sof c k).take i ++ (sof c k).drop (i + 1)) | none => c
section
variable {w W W' : World} {g b n : Nat} {c : Cs} {L M : Blks}
set_option maxRecDepth 20000 in
set_option maxHeartbeats 2000000 in
theorem drop_any (h : WC w W g b n c L) (k : Int) (hk : k ≤ 9223372036854775807) :
    Calls Try.prog 12 #[.pointer (some ⟨g, 0, none⟩), .int .i64 k] W fun e W' => e = .returned (.bool (getO c k)) ∧ WC w W' g b n (dropC c k) L := by
  have FI := Lib.hid (fun W L (h : WC w W g b n c L) => find_any h k hk)
  generalize hD : dropC c k = D
  generalize hO : getO c k = O
  unfold dropC at hD
  unfold getO at hO
  cases hf : fnd (sof c k) k with
  | none =>
    have e1 : fndV (sof c k) k = -1 := by unfold fndV; rw [hf]
    rw [hf] at hD hO
    rw [e1] at FI
    obtain rfl : false = O := hO
    obtain rfl : c = D := hD
    clear hf e1
    go_enter Try.func12, Try.ntmps12
    go_wp2_with (go_at_call 28; refine (FI.out _ _ h).mono ?_; rintro e W2 ⟨rfl, hb⟩)
    go_ret
    exact ⟨rfl, h.call hb⟩
  | some q =>
  have e1 : fndV (sof c k) k = (q : Int) := by unfold fndV; rw [hf]
  obtain ⟨x, hx, hxk, _⟩ := fnd_spec hf
  have hql : q < (sof c k).length := (List.getElem?_eq_some_iff.1 hx).1
  have h0 : ¬ k < 0 := fun h0 => by rw [sof_neg h0] at hx; simp at hx
  obtain ⟨a, rfl⟩ : ∃ a : Nat, k = (a : Int) := ⟨k.toNat, by omega⟩
  rw [hf] at hD hO
  rw [e1] at FI
  obtain rfl : true = O := hO
  have hD2 : c.set (plc c (a : Int)) ((sof c (a : Int)).take q ++ (sof c (a : Int)).drop (q + 1)) = D := hD
  clear hD hf e1 hxk hx h0
  rw [sof_nat] at hql hD2
  have s1 := h.pos
  have s2 := h.s64
  have PL := Lib.hid (fun W c1 => place_any g b c.length a s1 s2 (by omega) W c1)
  have e : a % c.length = plc c (a : Int) := by unfold plc; rw [Int.toNat_natCast]
  rw [e] at PL
  have hlt := plc_lt s1 (a : Int)
  have mx : (c.getD (plc c (a : Int)) []).length ≤ 9223372036854775807 := by
    obtain ⟨A, p, _, hr⟩ := h.set_at _ hlt
    exact hr.max
  have OP := Lib.hid (fun W (h : WC w W g b n c L) => h.open_ _ hlt)
  have ex : ∀ xs : List Ent, xs = c.getD (plc c (a : Int)) [] → c.getD (plc c (a : Int)) [] = xs := fun xs h => h.symm
  generalize c.getD (plc c (a : Int)) [] = xs at *
  generalize plc c (a : Int) = i at *
  have q0 : ((q : Int) < 0) = False := eq_false (by omega)
  have i1 : (i : Int) < (c.length : Int) := by omega
  have i2 : i ≤ 64 := by omega
  generalize hSn : c.length = Sn at *
  generalize hm : q + 1 = m at *
  have hmI : (q : Int) + 1 = (m : Int) := by omega
  have hw : IntKind.i64.wrap (m : Int) = (m : Int) := IntWalk.i64_in _ (by omega)
  clear ex e
  replace mx := Lib.hid mx
  go_enter Try.func12, Try.ntmps12
  go_wp2_with (first
    | (have _ := h; go_at_call 28; refine (FI.out _ _ h).mono ?_; rintro e W2 ⟨rfl, hb⟩; have h2 := h.call hb; clear h hb; have c1 := h2.c1; rw [hSn] at c1)
    | (go_at_call 27; refine (PL.out _ c1).mono ?_; rintro e X1 ⟨rfl, rfl⟩))
  obtain ⟨v, M, Z, vs, hr, hv, hs, up⟩ := OP.out _ (show WC w X1.drew g b n c L from h2.drewN 1)
  obtain ⟨A, p, rfl, _⟩ := hr.form
  generalize hT : Z ++ L = T at *
  have HI := Lib.hid (show i < vs.toArray.size from by have := (List.getElem?_eq_some_iff.1 hv).1; simpa using this)
  have CB := Lib.hid (fun (V : World) (M1 : Blks) (hs : St w V (M1 ++ ((g, C 54 (carr n b Sn)) :: (b, C 55 vs.toArray) :: T))) => show V.cell? ⟨g, 1, none⟩ = some (.slice (some ⟨b, 0, none⟩) Sn Sn) ∧ V.cell? ⟨b, i, none⟩ = some (.slice A xs.length p) from by
    have a1 : At V g 54 (carr n b Sn) := hs.at_ (g, C 54 (carr n b Sn)) (by simp)
    have a2 : At V b 55 vs.toArray := hs.at_ (b, C 55 vs.toArray) (by simp)
    exact ⟨a1.cell 1, (a2.cell i).trans (by simpa using hv)⟩)
  have DE := Lib.hid (fun V (hs : St w V (M ++ ((g, C 54 (carr n b Sn)) :: (b, C 55 vs.toArray) :: T))) => delete_any hr hs q m hql hm.symm)
  have UP := Lib.hid (fun (V : World) v' xs' M' (hr : RL v' xs' M') (h : St w V ((g, C 54 (carr n b Sn)) :: (b, C 55 (vs.set i v').toArray) :: (M' ++ T))) => up V v' xs' M' L hr (by rw [hT]; exact h.perm (List.perm_append_comm_assoc M' [_, _] T).symm))
  have HS0 := Lib.hid hs
  have H0 := Lib.hid (CB.out _ _ hs)
  generalize hLN : xs.length = LN at *
  clear hs hr hv up h2 c1 OP
  refine wp_region_last (fun W => W.cell? ⟨g, 1, none⟩ = some (.slice (some ⟨b, 0, none⟩) Sn Sn) ∧ W.cell? ⟨b, i, none⟩ = some (.slice A LN p)) 17 (by kernel_rfl) ?_
  generalize X1.drew = V0 at *
  refine AnyT.take (i := 0) (v := .pointer (some ⟨g, 0, none⟩)) rfl (by kernel_rfl) (by kernel_rfl) (by kernel_rfl) (by kernel_rfl) (by decide) (fun _ _ _ h => h) (Or.inl ⟨by rfl, fun W hW => by clear hW; go_simp⟩) H0.out ?_
  try simp only [Act.put, List.getElem_toArray, List.getElem_cons_succ, List.getElem_cons_zero, List.setIfInBounds_toArray, List.set_cons_zero, List.set_cons_succ]
  refine AnyT.take (i := 1) (v := .pointer (some ⟨g, 0, none⟩)) rfl (by kernel_rfl) (by kernel_rfl) (by kernel_rfl) (by kernel_rfl) (by decide) (fun _ _ _ h => h) (Or.inl ⟨by rfl, fun W hW => by clear hW; go_simp⟩) H0.out ?_
  try simp only [Act.put, List.getElem_toArray, List.getElem_cons_succ, List.getElem_cons_zero, List.setIfInBounds_toArray, List.set_cons_zero, List.set_cons_succ]
  refine AnyT.take (i := 2) (v := .pointer (some ⟨g, 1, none⟩)) rfl (by kernel_rfl) (by kernel_rfl) (by kernel_rfl) (by kernel_rfl) (by decide) (fun _ _ _ h => h) (Or.inl ⟨by rfl, fun W hW => by clear hW; go_simp⟩) H0.out ?_
  try simp only [Act.put, List.getElem_toArray, List.getElem_cons_succ, List.getElem_cons_zero, List.setIfInBounds_toArray, List.set_cons_zero, List.set_cons_succ]
  refine AnyT.take (i := 3) (v := .slice (some ⟨b, 0, none⟩) Sn Sn) rfl (by kernel_rfl) (by kernel_rfl) (by kernel_rfl) (by kernel_rfl) (by decide) (fun _ _ _ h => h) (Or.inl ⟨by rfl, fun W hW => by have hc := (show W.cell? ⟨g, 1, none⟩ = some (.slice (some ⟨b, 0, none⟩) Sn Sn) from hW.1); clear hW; go_simp⟩) H0.out ?_
  try simp only [Act.put, List.getElem_toArray, List.getElem_cons_succ, List.getElem_cons_zero, List.setIfInBounds_toArray, List.set_cons_zero, List.set_cons_succ]
  refine AnyT.take (i := 4) (v := .int .i64 (i : Int)) rfl (by kernel_rfl) (by kernel_rfl) (by kernel_rfl) (by kernel_rfl) (by decide) (fun _ _ _ h => h) (Or.inl ⟨by rfl, fun W hW => by clear hW; go_simp⟩) H0.out ?_
  try simp only [Act.put, List.getElem_toArray, List.getElem_cons_succ, List.getElem_cons_zero, List.setIfInBounds_toArray, List.set_cons_zero, List.set_cons_succ]
  refine AnyT.take (i := 5) (v := .pointer (some ⟨g, 0, none⟩)) rfl (by kernel_rfl) (by kernel_rfl) (by kernel_rfl) (by kernel_rfl) (by decide) (fun _ _ _ h => h) (Or.inl ⟨by rfl, fun W hW => by clear hW; go_simp⟩) H0.out ?_
  try simp only [Act.put, List.getElem_toArray, List.getElem_cons_succ, List.getElem_cons_zero, List.setIfInBounds_toArray, List.set_cons_zero, List.set_cons_succ]
  refine AnyT.take (i := 6) (v := .pointer (some ⟨g, 0, none⟩)) rfl (by kernel_rfl) (by kernel_rfl) (by kernel_rfl) (by kernel_rfl) (by decide) (fun _ _ _ h => h) (Or.inl ⟨by rfl, fun W hW => by clear hW; go_simp⟩) H0.out ?_
  try simp only [Act.put, List.getElem_toArray, List.getElem_cons_succ, List.getElem_cons_zero, List.setIfInBounds_toArray, List.set_cons_zero, List.set_cons_succ]
  refine AnyT.take (i := 7) (v := .pointer (some ⟨g, 1, none⟩)) rfl (by kernel_rfl) (by kernel_rfl) (by kernel_rfl) (by kernel_rfl) (by decide) (fun _ _ _ h => h) (Or.inl ⟨by rfl, fun W hW => by clear hW; go_simp⟩) H0.out ?_
  try simp only [Act.put, List.getElem_toArray, List.getElem_cons_succ, List.getElem_cons_zero, List.setIfInBounds_toArray, List.set_cons_zero, List.set_cons_succ]
  refine AnyT.take (i := 8) (v := .slice (some ⟨b, 0, none⟩) Sn Sn) rfl (by kernel_rfl) (by kernel_rfl) (by kernel_rfl) (by kernel_rfl) (by decide) (fun _ _ _ h => h) (Or.inl ⟨by rfl, fun W hW => by have hc := (show W.cell? ⟨g, 1, none⟩ = some (.slice (some ⟨b, 0, none⟩) Sn Sn) from hW.1); clear hW; go_simp⟩) H0.out ?_
  try simp only [Act.put, List.getElem_toArray, List.getElem_cons_succ, List.getElem_cons_zero, List.setIfInBounds_toArray, List.set_cons_zero, List.set_cons_succ]
  refine AnyT.take (i := 9) (v := .int .i64 (i : Int)) rfl (by kernel_rfl) (by kernel_rfl) (by kernel_rfl) (by kernel_rfl) (by decide) (fun _ _ _ h => h) (Or.inl ⟨by rfl, fun W hW => by clear hW; go_simp⟩) H0.out ?_
  try simp only [Act.put, List.getElem_toArray, List.getElem_cons_succ, List.getElem_cons_zero, List.setIfInBounds_toArray, List.set_cons_zero, List.set_cons_succ]
  refine AnyT.take (i := 10) (v := .pointer (some ⟨b, i, none⟩)) rfl (by kernel_rfl) (by kernel_rfl) (by kernel_rfl) (by kernel_rfl) (by decide) (fun _ _ _ h => h) (Or.inl ⟨by rfl, fun W hW => by clear hW; go_simp⟩) H0.out ?_
  try simp only [Act.put, List.getElem_toArray, List.getElem_cons_succ, List.getElem_cons_zero, List.setIfInBounds_toArray, List.set_cons_zero, List.set_cons_succ]
  refine AnyT.take (i := 11) (v := .slice A LN p) rfl (by kernel_rfl) (by kernel_rfl) (by kernel_rfl) (by kernel_rfl) (by decide) (fun _ _ _ h => h) (Or.inl ⟨by rfl, fun W hW => by have hc := (show W.cell? ⟨b, i, none⟩ = some (.slice A LN p) from hW.2); clear hW; go_simp⟩) H0.out ?_
  try simp only [Act.put, List.getElem_toArray, List.getElem_cons_succ, List.getElem_cons_zero, List.setIfInBounds_toArray, List.set_cons_zero, List.set_cons_succ]
  refine AnyT.take (i := 12) (v := .int .i64 (q : Int)) rfl (by kernel_rfl) (by kernel_rfl) (by kernel_rfl) (by kernel_rfl) (by decide) (fun _ _ _ h => h) (Or.inl ⟨by rfl, fun W hW => by clear hW; go_simp⟩) H0.out ?_
  try simp only [Act.put, List.getElem_toArray, List.getElem_cons_succ, List.getElem_cons_zero, List.setIfInBounds_toArray, List.set_cons_zero, List.set_cons_succ]
  refine AnyT.take (i := 13) (v := .int .i64 (q : Int)) rfl (by kernel_rfl) (by kernel_rfl) (by kernel_rfl) (by kernel_rfl) (by decide) (fun _ _ _ h => h) (Or.inl ⟨by rfl, fun W hW => by clear hW; go_simp⟩) H0.out ?_
  try simp only [Act.put, List.getElem_toArray, List.getElem_cons_succ, List.getElem_cons_zero, List.setIfInBounds_toArray, List.set_cons_zero, List.set_cons_succ]
  refine AnyT.take (i := 14) (v := .int .i64 (m : Int)) rfl (by kernel_rfl) (by kernel_rfl) (by kernel_rfl) (by kernel_rfl) (by decide) (fun _ _ _ h => h) (Or.inl ⟨by rfl, fun W hW => by clear hW; go_simp⟩) H0.out ?_
  try simp only [Act.put, List.getElem_toArray, List.getElem_cons_succ, List.getElem_cons_zero, List.setIfInBounds_toArray, List.set_cons_zero, List.set_cons_succ]
  refine AnyT.one (i := 15) (by kernel_rfl) rfl (fun K hK => ?_)
  go_simp
  go_at_call 29
  refine (DE.out _ HS0.out).mono ?_
  rintro e V1 ⟨v1, M1, rfl, hr1, hs1⟩
  have HR1 := Lib.hid hr1
  have HS1 := Lib.hid hs1
  clear hr1 hs1
  have H1_ := Lib.hid (CB.out V1 M1 HS1.out)
  refine hK.out _ _ (fun _ => H1_.out) ?_
  clear hK K
  try simp only [Act.put, List.getElem_toArray, List.getElem_cons_succ, List.getElem_cons_zero, List.setIfInBounds_toArray, List.set_cons_zero, List.set_cons_succ]
  refine AnyT.take (i := 16) (v := .pointer (some ⟨b, i, none⟩)) rfl (by kernel_rfl) (by kernel_rfl) (by kernel_rfl) (by kernel_rfl) (by decide) (fun _ _ _ h => h) (Or.inl ⟨by rfl, fun W hW => by clear hW; go_simp⟩) H1_.out ?_
  try simp only [Act.put, List.getElem_toArray, List.getElem_cons_succ, List.getElem_cons_zero, List.setIfInBounds_toArray, List.set_cons_zero, List.set_cons_succ]
  refine AnyT.one (i := 17) (by kernel_rfl) rfl (fun K hK => ?_)
  rw [if_pos (by rfl)]
  refine wp_cell_st (HS1.out.perm (List.perm_append_comm_assoc M1 [_, _] T)) 1 rfl 55 (.tmp 31) (.tmp 30) rfl i v1 rfl rfl HI.out (rl_cells HR1.out).1 (rl_cells HR1.out).2 sz55 ?_
  intro V2 hs2
  have HS2 := Lib.hid hs2
  clear hs2
  refine hK.out _ _ (fun h => absurd rfl h) ?_
  clear hK K
  try simp only [Act.put, List.getElem_toArray, List.getElem_cons_succ, List.getElem_cons_zero, List.setIfInBounds_toArray, List.set_cons_zero, List.set_cons_succ]
  refine AnyT.done (by kernel_rfl) ?_ _
  go_wp2
  go_ret
  refine ⟨rfl, ?_⟩
  rw [← hD2, ← hm]
  exact UP.out _ _ _ _ HR1.out (by have := HS2.out; simpa using this)
end
end Go.Proofs.Ytmlepikgiicaiaa
