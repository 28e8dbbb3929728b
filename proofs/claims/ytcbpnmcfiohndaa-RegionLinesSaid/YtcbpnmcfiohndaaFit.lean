/- A right plan out of any. No statement is proved here. -/
import Derived.Test.YtcbpnmcfiohndaaLast
namespace Go.Proofs.Ytcbpnmcfiohndaa
open Go.RowKit
set_option linter.unusedVariables false
set_option linter.unusedSimpArgs false

def fitP (p : Pl) : Pl := { bounded p with me := Ls (bounded p) + p.me % 4 }
theorem bounded_shaped (p : Pl) : shaped (bounded p) = true := by
  unfold shaped bounded
  simp only [Bool.and_eq_true]
  exact ⟨⟨⟨fitI_win _ _ _ (by omega), fitI_win _ _ _ (by omega)⟩, fitI_win _ _ _ (by omega)⟩, fitI_win _ _ _ (by omega)⟩
theorem Ls_bounds {p : Pl} (h : shaped p = true) : 2 ≤ Ls p ∧ Ls p ≤ 21 := by
  have sh := sh_of h
  unfold Ls
  rw [if_pos h, sh.lv h, sh.ba]
  obtain ⟨t1, t2, _⟩ := tree_facts sh.n1 sh.n2 sh.a1 sh.a2
  have b1 := sh.b1
  have b2 := sh.b2
  generalize p.ba.toNat = b at *
  generalize lev p.pa.toNat p.ar.toNat = L at *
  have h1 : b * L ≤ 4 * 5 := Nat.mul_le_mul b2 t1
  have h2 : 1 * 1 ≤ b * L := Nat.mul_le_mul b1 t2
  have e : (b : Int) * (L : Int) = ((b * L : Nat) : Int) := by simp
  rw [e]
  omega
attribute [local irreducible] shaped Ls bounded
set_option maxHeartbeats 2000000 in
set_option maxRecDepth 20000 in
theorem fit_any (p : Pl) (w : World) : Calls Try.prog 23 #[.agg p.arr] w fun e w' => e = .returned (.agg (fitP p).arr) ∧ Below w.heap.size w w' := by
  have BD := Lib.hid (fun W => bounded_any p W)
  have LS := Lib.hid (fun W => least_any (bounded p) W)
  have R4 : Hid (∀ W, Calls Try.prog 43 #[.int .i64 p.me, .int .i64 4] W fun e w' => e = .returned (.int .i64 (p.me % 4)) ∧ w' = W) := fun W => rest_any p.me 4 (by omega) (by omega) W
  have h0 := P2.new w p
  rw [zero_arr] at h0
  have e1 : (bounded p).me = p.me := by unfold bounded; rfl
  have E : Hid (fitP p = { bounded p with me := Ls (bounded p) + p.me % 4 }) := rfl
  obtain ⟨u1, u2⟩ := Ls_bounds (bounded_shaped p)
  have r1 := Int.emod_nonneg p.me (b := 4) (by omega)
  have r2 := Int.emod_lt_of_pos p.me (b := 4) (by omega)
  generalize fitP p = F at *
  generalize Ls (bounded p) = L at *
  generalize p.me % 4 = r at *
  have w1 : IntKind.i64.wrap (L + r) = L + r := IntWalk.i64_in _ (by omega)
  go_enter Try.func23, Try.ntmps23
  go_wp2_with (first
    | (refine wpList_load_plan h0.b1 _ rfl rfl rfl ?_)
    | (go_at_call 39; refine (BD.out _).mono ?_; rintro e W1 ⟨rfl, hb⟩; have h1 := (h0.call hb).swap; clear h0 hb)
    | (refine wpList_putP h1 _ _ rfl rfl rfl rfl ?_; clear h1; intro W2 h2'; have h2 := h2'.swap; clear h2'))
  have H0 := Lib.hid h2.drew
  clear h2
  refine wp_region_last (fun W => P2 w w.heap.size (bounded p) (w.heap.size + 1) Pl.zero W) 7 (by kernel_rfl) ?_
  generalize W2.drew = V0 at *
  have c11 : ∀ W, P2 w w.heap.size (bounded p) (w.heap.size + 1) Pl.zero W → W.cell? ⟨w.heap.size, 11, none⟩ = some (.int .i64 p.me) := fun W hW => hW.b1.c11.trans (by rw [e1])
  refine AnyT.take (i := 0) (v := .agg (bounded p).arr) rfl (by kernel_rfl) (by kernel_rfl) (by kernel_rfl) (by kernel_rfl) (by decide) (fun _ _ _ h => h) (yields_plan _ rfl (by rfl) rfl (fun W hW => hW.b1)) H0.out ?_
  try simp only [Act.put, List.getElem_toArray, List.getElem_cons_succ, List.getElem_cons_zero, List.setIfInBounds_toArray, List.set_cons_zero, List.set_cons_succ]
  refine AnyT.take (i := 2) (v := .pointer (some ⟨w.heap.size, 11, none⟩)) rfl (by kernel_rfl) (by kernel_rfl) (by kernel_rfl) (by kernel_rfl) (by decide) (fun _ _ _ h => h) (Or.inl ⟨by rfl, fun W hW => by clear hW; go_simp⟩) H0.out ?_
  try simp only [Act.put, List.getElem_toArray, List.getElem_cons_succ, List.getElem_cons_zero, List.setIfInBounds_toArray, List.set_cons_zero, List.set_cons_succ]
  refine AnyT.take (i := 3) (v := .int .i64 p.me) rfl (by kernel_rfl) (by kernel_rfl) (by kernel_rfl) (by kernel_rfl) (by decide) (fun _ _ _ h => h) (Or.inl ⟨by rfl, fun W hW => by have hc := c11 W hW; clear hW; go_simp⟩) H0.out ?_
  try simp only [Act.put, List.getElem_toArray, List.getElem_cons_succ, List.getElem_cons_zero, List.setIfInBounds_toArray, List.set_cons_zero, List.set_cons_succ]
  refine AnyT.one (i := 1) (by kernel_rfl) rfl (fun K hK => ?_)
  go_simp
  go_at_call 21
  refine (LS.out _).mono ?_
  rintro e V1_ ⟨rfl, hb1_⟩
  have H1_ := Lib.hid (H0.out.call hb1_)
  clear hb1_
  refine hK.out _ _ (fun _ => H1_.out) ?_
  clear hK K
  try simp only [Act.put, List.getElem_toArray, List.getElem_cons_succ, List.getElem_cons_zero, List.setIfInBounds_toArray, List.set_cons_zero, List.set_cons_succ]
  refine AnyT.one (i := 4) (by kernel_rfl) rfl (fun K hK => ?_)
  go_simp
  go_at_call 43
  refine (R4.out _).mono ?_
  rintro e V2_ ⟨rfl, rfl⟩
  have H2_ := Lib.hid (H1_.out)
  refine hK.out _ _ (fun _ => H2_.out) ?_
  clear hK K
  try simp only [Act.put, List.getElem_toArray, List.getElem_cons_succ, List.getElem_cons_zero, List.setIfInBounds_toArray, List.set_cons_zero, List.set_cons_succ]
  refine AnyT.take (i := 5) (v := .int .i64 (L + r)) rfl (by kernel_rfl) (by kernel_rfl) (by kernel_rfl) (by kernel_rfl) (by decide) (fun _ _ _ h => h) (Or.inl ⟨by rfl, fun W hW => by clear hW; go_simp⟩) H2_.out ?_
  try simp only [Act.put, List.getElem_toArray, List.getElem_cons_succ, List.getElem_cons_zero, List.setIfInBounds_toArray, List.set_cons_zero, List.set_cons_succ]
  refine AnyT.take (i := 6) (v := .pointer (some ⟨w.heap.size, 11, none⟩)) rfl (by kernel_rfl) (by kernel_rfl) (by kernel_rfl) (by kernel_rfl) (by decide) (fun _ _ _ h => h) (Or.inl ⟨by rfl, fun W hW => by clear hW; go_simp⟩) H2_.out ?_
  try simp only [Act.put, List.getElem_toArray, List.getElem_cons_succ, List.getElem_cons_zero, List.setIfInBounds_toArray, List.set_cons_zero, List.set_cons_succ]
  refine AnyT.one (i := 7) (by kernel_rfl) rfl (fun K hK => ?_)
  rw [if_pos (by rfl)]
  refine wp_store_num _ _ rfl rfl rfl (H2_.out.b1.some 11 (by omega)) (H2_.out.b1.frozen 11) ?_
  refine hK.out _ _ (fun h => absurd rfl h) ?_
  clear hK K
  try simp only [Act.put, List.getElem_toArray, List.getElem_cons_succ, List.getElem_cons_zero, List.setIfInBounds_toArray, List.set_cons_zero, List.set_cons_succ]
  refine AnyT.done (by kernel_rfl) ?_ _
  have h3 := Lib.hid (H2_.out.put (p' := { bounded p with me := L + r }) (Pl.set_me _ (L + r)))
  generalize V2_.setCell ⟨w.heap.size, 11, none⟩ (.int .i64 (L + r)) = V3 at *
  go_wp2_with (first
    | (refine wpList_load_plan h3.out.b1 _ rfl rfl rfl ?_)
    | (refine wpList_putP h3.out _ _ rfl rfl rfl rfl ?_; intro W4 h4))
  exact bodyPost_ret (results_arr Try.results23 _ _ (w.heap.size + 1) rfl _ h4.b2.loadV) rfl ⟨by rw [E.out], h4.bel⟩
end Go.Proofs.Ytcbpnmcfiohndaa
