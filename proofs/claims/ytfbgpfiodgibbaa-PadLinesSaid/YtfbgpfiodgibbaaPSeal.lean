/- Pads are made; lines are enciphered and deciphered: the program's. No statement is proved here. -/
import Derived.Test.YtfbgpfiodgibbaaPCross
namespace Go.Proofs.Ytfbgpfiodgibbaa
open Go.RowKit Go.Shelf
open A (arrV vals)
set_option linter.unusedVariables false
set_option linter.unusedSimpArgs false
attribute [local irreducible] A.arrV crs cr1

/-- The pads of a key: the object g, its cipher gc, the seeds that were used. -/
def PP (w W : World) (g gc : Nat) (key : List Nat) (us : List Sd) (L : Blks) : Prop :=
  ∃ v M, RL v us M ∧ St w W ((g, C 59 #[.pointer (some ⟨gc, 0, none⟩), v]) :: (gc, C 78 (arrV (A.cells key))) :: (M ++ L))
section
variable {w W W' : World} {g gc : Nat} {key : List Nat} {us : List Sd} {L : Blks}
theorem PP.has (h : PP w W g gc key us L) : HasPads W g gc key := by
  obtain ⟨v, M, _, hs⟩ := h
  exact ⟨⟨v, hs.get 0 rfl⟩, hs.get 1 rfl⟩
theorem PP.call (h : PP w W g gc key us L) (hb : Below W.heap.size W W') : PP w W' g gc key us L := by
  obtain ⟨v, M, hr, hs⟩ := h
  exact ⟨v, M, hr, hs.call hb⟩
theorem PP.drew (h : PP w W g gc key us L) : PP w W.drew g gc key us L := by
  obtain ⟨v, M, hr, hs⟩ := h
  exact ⟨v, M, hr, hs.drew⟩
theorem PP.rest (h : PP w W g gc key us L) : St w W L := by
  obtain ⟨v, M, hr, hs⟩ := h
  exact hs.sub (((List.sublist_append_right M L).cons _).cons _)
end
theorem St.adds {w W W' : World} {L : Blks} {g : Nat} {o : Obj} (h : St w W L) (hb : Below W.heap.size W W') (hg : W.heap.size ≤ g) (hA : W'.heap[g]? = some o) : St w W' (L ++ [(g, o)]) := by
  refine (h.call hb).join ⟨fun x hx => ?_, fun x hx => ?_, List.pairwise_singleton _ _, h.bel.trans (hb.mono h.bel.size)⟩ (fun x hx y hy => ?_)
  · rw [List.mem_singleton] at hx; subst hx; exact hA
  · rw [List.mem_singleton] at hx; subst hx; exact Nat.le_trans h.bel.size hg
  · rw [List.mem_singleton] at hy; subst hy
    have := heap_lt (h.at_ x hx)
    simp only; omega
section
variable {w W : World} {L : Blks}
set_option maxRecDepth 20000 in
set_option maxHeartbeats 1000000 in
theorem new_any (h : St w W L) (key : List Nat) (hk : IsKey key) :
    Calls Try.prog 9 #[.agg (arrV key)] W fun e W' => ∃ g gc, e = .returned (.pointer (some ⟨g, 0, none⟩)) ∧ PP w W' g gc key [] L := by
  have NW := Lib.hid (fun W => A.new_any key W hk.len hk.lt)
  have KL := Lib.hid hk.len
  clear hk
  generalize hcc : A.cells key = cc at *
  have HCC := Lib.hid hcc
  clear hcc
  have F := Lib.hid (fun (V : World) (g gc bk : Nat) (h : St w V (L ++ [(bk, C 23 (arrV key))] ++ [(gc, C 78 (arrV (A.cells key)))] ++ [(g, C 59 #[.pointer (some ⟨gc, 0, none⟩), .slice none 0 0])])) => show PP w V g gc key [] L from
    ⟨_, [], RL.nil_, (h.sub (((List.sublist_append_left L _).append (List.Sublist.refl _)).append (List.Sublist.refl _))).perm (by
      rw [List.append_assoc]
      exact (List.perm_append_comm (l₁ := L)).trans ((List.Perm.swap _ _ _)))⟩)
  go_enter Try.func9, Try.ntmps9
  go_wp2_with (first
    | (have _ := h; refine wpList_box_st h 23 _ rfl rfl (arrV key) rfl ?_; clear h; intro W1 h1 _ _; generalize W.heap.size = bk at *)
    | (have _ := h1; refine wpList_load_at (show At W1 bk 23 (arrV key) from h1.at_ (bk, _) (by simp)) 23 _ _ rfl rfl rfl Try.underlying23 rfl (by rw [A.arrV_size, KL.out]; exact sz23) ?_)
    | (go_at_call 23; refine (NW.out _).mono ?_; rintro e W2 ⟨gc, rfl, hgc, hci, hb2⟩; have h2 := h1.adds hb2 hgc hci; clear hb2 hci h1 NW)
    | (have _ := h2; refine wpList_box_st h2 59 _ rfl rfl #[.pointer (some ⟨gc, 0, none⟩), .slice none 0 0] rfl ?_; clear h2; intro W3 h3 _ _))
  go_ret
  exact ⟨_, gc, rfl, F.out _ _ _ _ h3⟩
end
set_option maxRecDepth 20000 in
set_option maxHeartbeats 1000000 in
theorem open_any (g gc : Nat) (key : List Nat) (hk : IsKey key) (l : Int) (M : Nat) (m : Int) (hl : I64 l) (hM : M < 18446744073709551616) (hm : I64 m) (xs : List Nat) (hx : IsLine xs) (w : World) (hp : HasPads w g gc key) :
    Calls Try.prog 11 #[.pointer (some ⟨g, 0, none⟩), .int .i64 l, .int .u64 (M : Int), .int .i64 m, .agg (arrV xs)] w fun e w' => e = .returned (.agg (arrV (crL key l M m xs))) ∧ Below w.heap.size w w' := by
  have CR := Lib.hid (fun W b0 b1 b2 hp hB => crossed_any g gc key hk b0 b1 b2 l M m hl hM hm xs hx W hp hB)
  have XL := Lib.hid hx.len
  have YL := Lib.hid (crL_ok hk l M m hx).len
  generalize crL key l M m xs = Y at *
  have h0 := St.nil w
  clear hk hl hM hm hx
  go_enter Try.func11, Try.ntmps11
  go_wp2_with (first
    | (refine wpList_box_st h0 36 _ rfl rfl (arrV xs) rfl ?_; clear h0; intro W1 h1 _ hb1; generalize w.heap.size = b9 at *)
    | (refine wpList_alloc_st h1 36 rfl rfl _ (arrV zs32) zero36 rfl ?_; clear h1; intro W2 h2 _ hb2; generalize W1.heap.size = b10 at *))
  have H0 := Lib.hid (show P19 w g gc key [(b9, C 36 (arrV xs)), (b10, C 36 (arrV zs32))] W2.drew from P19.drew ⟨hp.call h2.bel, h2⟩)
  clear h2 hb1 hb2 hp
  refine wp_region_last (fun W => P19 w g gc key [(b9, C 36 (arrV xs)), (b10, C 36 (arrV zs32))] W) 7 (by kernel_rfl) ?_
  generalize W2.drew = V0 at *
  refine AnyT.take (i := 0) (v := .pointer (some ⟨g, 0, none⟩)) rfl (by kernel_rfl) (by kernel_rfl) (by kernel_rfl) (by kernel_rfl) (by decide) (fun _ _ _ h => h) (Or.inl ⟨by rfl, fun W hW => by clear hW; go_simp⟩) H0.out ?_
  try simp only [Act.put, List.getElem_toArray, List.getElem_cons_succ, List.getElem_cons_zero, List.setIfInBounds_toArray, List.set_cons_zero, List.set_cons_succ]
  refine AnyT.take (i := 1) (v := .int .i64 l) rfl (by kernel_rfl) (by kernel_rfl) (by kernel_rfl) (by kernel_rfl) (by decide) (fun _ _ _ h => h) (Or.inl ⟨by rfl, fun W hW => by clear hW; go_simp⟩) H0.out ?_
  try simp only [Act.put, List.getElem_toArray, List.getElem_cons_succ, List.getElem_cons_zero, List.setIfInBounds_toArray, List.set_cons_zero, List.set_cons_succ]
  refine AnyT.take (i := 2) (v := .int .u64 (M : Int)) rfl (by kernel_rfl) (by kernel_rfl) (by kernel_rfl) (by kernel_rfl) (by decide) (fun _ _ _ h => h) (Or.inl ⟨by rfl, fun W hW => by clear hW; go_simp⟩) H0.out ?_
  try simp only [Act.put, List.getElem_toArray, List.getElem_cons_succ, List.getElem_cons_zero, List.setIfInBounds_toArray, List.set_cons_zero, List.set_cons_succ]
  refine AnyT.take (i := 3) (v := .int .i64 m) rfl (by kernel_rfl) (by kernel_rfl) (by kernel_rfl) (by kernel_rfl) (by decide) (fun _ _ _ h => h) (Or.inl ⟨by rfl, fun W hW => by clear hW; go_simp⟩) H0.out ?_
  try simp only [Act.put, List.getElem_toArray, List.getElem_cons_succ, List.getElem_cons_zero, List.setIfInBounds_toArray, List.set_cons_zero, List.set_cons_succ]
  refine AnyT.take (i := 5) (v := .agg (arrV xs)) rfl (by kernel_rfl) (by kernel_rfl) (by kernel_rfl) (by kernel_rfl) (by decide) (fun _ _ _ h => h) (yields_at 36 _ _ rfl (by rfl) rfl Try.underlying36 rfl (by rw [A.arrV_size, XL.out]; exact sz36) (fun W hW => hW.st.get 0 rfl)) H0.out ?_
  try simp only [Act.put, List.getElem_toArray, List.getElem_cons_succ, List.getElem_cons_zero, List.setIfInBounds_toArray, List.set_cons_zero, List.set_cons_succ]
  refine AnyT.one (i := 4) (by kernel_rfl) rfl (fun K hK => ?_)
  go_simp
  go_at_call 26
  refine (seeds_any l M m _).mono ?_
  rintro e V1 ⟨b0, b1, b2, rfl, hB, _, _, _, hb⟩
  have H1_ := Lib.hid (H0.out.call hb)
  replace hB := Lib.hid hB
  clear hb
  refine hK.out _ _ (fun _ => H1_.out) ?_
  clear hK K
  try simp only [Act.put, List.getElem_toArray, List.getElem_cons_succ, List.getElem_cons_zero, List.setIfInBounds_toArray, List.set_cons_zero, List.set_cons_succ]
  refine AnyT.one (i := 6) (by kernel_rfl) rfl (fun K hK => ?_)
  go_simp
  go_at_call 25
  refine (CR.out _ b0 b1 b2 H1_.out.hp hB.out).mono ?_
  rintro e V2_ ⟨rfl, hb2_⟩
  have H2_ := Lib.hid (H1_.out.call hb2_)
  clear hb2_
  refine hK.out _ _ (fun _ => H2_.out) ?_
  clear hK K
  try simp only [Act.put, List.getElem_toArray, List.getElem_cons_succ, List.getElem_cons_zero, List.setIfInBounds_toArray, List.set_cons_zero, List.set_cons_succ]
  refine AnyT.one (i := 7) (by kernel_rfl) rfl (fun K hK => ?_)
  rw [if_pos (by rfl)]
  refine wp_store_st (arr' := arrV Y) H2_.out.st 1 rfl 36 _ _ rfl rfl rfl (by rw [A.arrV_size, YL.out]; exact sz36) (by rw [A.arrV_size, A.arrV_size, YL.out]; rfl) (A.arrV_all _) ?_
  intro W9 h9 _
  refine hK.out _ _ (fun h => absurd rfl h) ?_
  clear hK K
  try simp only [Act.put, List.getElem_toArray, List.getElem_cons_succ, List.getElem_cons_zero, List.setIfInBounds_toArray, List.set_cons_zero, List.set_cons_succ]
  refine AnyT.done (by kernel_rfl) ?_ _
  go_wp2
  exact bodyPost_ret (A.results_arr Try.results11 _ _ _ rfl _ ((show A.Blk W9 _ 36 Y from h9.get 1 rfl).loadAll 36 _ YL.out Try.underlying36 rfl sz36)) rfl ⟨rfl, h9.bel⟩
/-! ### Seal -/
theorem seeds_st {w W : World} {L : Blks} (h : St w W L) (l : Int) (M : Nat) (m : Int) :
    Calls Try.prog 26 #[.int .i64 l, .int .u64 (M : Int), .int .i64 m] W fun e w' => ∃ b0 b1 b2, e = .returned (.func (.func 39) #[] #[.pointer (some ⟨b0, 0, none⟩), .pointer (some ⟨b1, 0, none⟩), .pointer (some ⟨b2, 0, none⟩)]) ∧ St w w' (L ++ [(b0, C 3 #[.int .i64 l]), (b1, C 34 #[.int .u64 (M : Int)]), (b2, C 3 #[.int .i64 m])]) := by
  go_enter Try.func26, Try.ntmps26
  go_wp2_with (first
    | (have _ := h; refine wpList_box_st h 3 _ rfl rfl #[.int .i64 l] rfl ?_; clear h; intro W1 h1 _ _)
    | (have _ := h1; refine wpList_box_st h1 34 _ rfl rfl #[.int .u64 (M : Int)] rfl ?_; clear h1; intro W2 h2 _ _)
    | (have _ := h2; refine wpList_box_st h2 3 _ rfl rfl #[.int .i64 m] rfl ?_; clear h2; intro W3 h3 _ _))
  go_ret
  exact ⟨_, _, _, rfl, by simpa [List.append_assoc] using h3⟩
theorem RL.ownC {α : Type} [E : Elt α] {v : Value} {xs : List α} {M : Blks} {W : World} (h : RL v xs M) (hM : ∀ x ∈ M, W.heap[x.1]? = some x.2) : ∀ r, v.ownBlock = some r → ∀ o : Obj, W.heap[r]? = some o → o.isCells = true := by
  intro r hr o ho
  rcases h with ⟨rfl, rfl, rfl⟩ | ⟨b, cap, cur, rfl, rfl, h1, h2, h3, h4⟩
  · cases hr
  · have e : b = r := by simpa [Value.ownBlock] using hr
    subst e
    have := hM _ (List.mem_singleton.2 rfl)
    simp only at this
    rw [this] at ho
    injection ho with ho
    rw [← ho]; rfl
section
variable {o : Oper} {a : Act} {w W : World} {K : Act → World → Prop} {Q : Exit → Act → World → Prop} {L : Blks}
theorem wp_build1G {α : Type} [E : Elt α] (h : St w W L) (x : Operand) (m : α) (ho : o.op = .buildSlice E.sl 1 #[(0, x)]) (hx : (a.eval x).cells = (E.cs m).toArray)
    (k : ∀ W', St w W' ((W.heap.size, C E.ty (E.cs m).toArray) :: L) → Below W.heap.size W W' → K (a.put o.dst (.slice (some ⟨W.heap.size, 0, none⟩) 1 1)) W') : o.wp Try.prog a W K Q := by
  have hrun := run_build1 (a.eval x) m hx W
  unfold Oper.wp execOp
  simp only [ho, Sem.run_bind, List.map_toArray, List.map_cons, List.map_nil, hrun, Result.andThen_ok]
  exact k _ (h.push E.ty _).front ((Below.refl _ _).alloc (Nat.le_refl _) _)
theorem wp_cell_stG (h : St w W L) (i : Nat) {g : Nat} {t : TypeId} {arr : Array Value} (hi : L[i]? = some (g, C t arr)) (ty : TypeId) (x y : Operand) (ho : o.op = .store ty x y)
    (m : Nat) (u : Value) (hx : a.eval x = .pointer (some ⟨g, m, none⟩)) (hy : a.eval y = u) (hm : m < arr.size) (hv : u.cells = #[u]) (h1 : u.oneCell' = true) (hs : (Try.prog.info? ty).map (·.size) = some 1)
    (k : ∀ W', St w W' (L.set i (g, C t (arr.setIfInBounds m u))) → W.grownBy W' (some g) → K (a.put o.dst undef) W') : o.wp Try.prog a W K Q := by
  have hA : At W g t arr := h.get i hi
  unfold Oper.wp execOp
  simp only [ho, hx, hy, Instr.storeAt, Instr.sureAddr, Sem.run_bind, Sem.run_pure, Result.andThen_ok, run_storeVar_one' W g m ty u hv h1 (by rw [hA.cell m, Array.getElem?_eq_getElem hm]; rfl) (hA.frozen m) hs]
  exact k _ (h.put i hi (hA.set m u) (grown_setCell W g m u)) (grown_setCell W g m u)
end
theorem regionIn_last {P : Program} {Q : Exit → Act → World → Prop} {ops : Array Oper} {l n id : Nat} {a : Act} {w : World} (S : World → Prop) (mm : Nat) (hm : P.follows .mixedOrders = true) (hQ : ¬ LetsOut Q) (hc : calm ops.toList = true)
    (h : AnyT P ops Q S mm ops.size (Array.replicate ops.size false) a w.drew) : (Code.region id ops true).wpIn (Fence.wide.inRound l) n P Q a w :=
  wpIn_region_any hm (anyIn_of l n _ hQ hc _ _ _ _ (AnyT.any _ _ _ _ h))
/-- The blocks while a line is enciphered. -/
abbrev SL (g gc : Nat) (key : List Nat) (v : Value) (M L : Blks) : Blks := (g, C 59 #[.pointer (some ⟨gc, 0, none⟩), v]) :: (gc, C 78 (arrV (A.cells key))) :: (M ++ L)
theorem SL.low {g gc B : Nat} {key : List Nat} {v : Value} {M L N : Blks} (hM : ∀ x ∈ M, x.2.isCells = true) (hL : ∀ x ∈ L, x.1 < B) (hN : ∀ x ∈ N, x.2.isCells = true) : ∀ x ∈ SL g gc key v M (L ++ N), x.1 < B ∨ x.2.isCells = true := by
  intro x hx
  simp only [SL, List.mem_cons, List.mem_append] at hx
  rcases hx with rfl | rfl | hx | hx | hx
  · exact .inr rfl
  · exact .inr rfl
  · exact .inr (hM x hx)
  · exact .inl (hL x hx)
  · exact .inr (hN x hx)
theorem SLp {g gc : Nat} {key : List Nat} {v : Value} {M L : Blks} {x : Nat × Obj} : (x :: SL g gc key v M L).Perm (M ++ (x :: (g, C 59 #[.pointer (some ⟨gc, 0, none⟩), v]) :: (gc, C 78 (arrV (A.cells key))) :: L)) :=
  (List.perm_append_comm_assoc [x, (g, C 59 #[.pointer (some ⟨gc, 0, none⟩), v]), (gc, C 78 (arrV (A.cells key)))] M L)
theorem SLq {g gc : Nat} {key : List Nat} {v : Value} {M L : Blks} {x : Nat × Obj} : (M ++ (x :: (g, C 59 #[.pointer (some ⟨gc, 0, none⟩), v]) :: (gc, C 78 (arrV (A.cells key))) :: L)).Perm ((g, C 59 #[.pointer (some ⟨gc, 0, none⟩), v]) :: (gc, C 78 (arrV (A.cells key))) :: x :: (M ++ L)) :=
  (List.perm_append_comm_assoc M [x, (g, C 59 #[.pointer (some ⟨gc, 0, none⟩), v]), (gc, C 78 (arrV (A.cells key)))] L).trans (List.Perm.trans (List.Perm.swap _ _ _) (List.Perm.cons _ (List.Perm.swap _ _ _)))
/-- The boxes of the call. -/
abbrev OW (g b5 b9 b10 b0 b1 b2 : Nat) (xs : List Nat) (l : Int) (M : Nat) (m : Int) : Blks := [(b5, C 31 #[.pointer (some ⟨g, 0, none⟩)]), (b9, C 36 (arrV xs)), (b10, C 36 (arrV zs32)), (b0, C 3 #[.int .i64 l]), (b1, C 34 #[.int .u64 (M : Int)]), (b2, C 3 #[.int .i64 m])]
theorem OW.cells {g b5 b9 b10 b0 b1 b2 : Nat} {xs : List Nat} {l : Int} {M : Nat} {m : Int} : ∀ x ∈ OW g b5 b9 b10 b0 b1 b2 xs l M m, x.2.isCells = true := by
  intro x hx
  simp only [OW, List.mem_cons, List.not_mem_nil, or_false] at hx
  rcases hx with rfl | rfl | rfl | rfl | rfl | rfl <;> rfl
theorem bx3_of {w W : World} {g gc b5 b9 b10 b0 b1 b2 : Nat} {key xs : List Nat} {l : Int} {M : Nat} {m : Int} {v : Value} {N L X : Blks} (h : St w W (SL g gc key v N (L ++ (OW g b5 b9 b10 b0 b1 b2 xs l M m ++ X)))) : Bx3 W b0 b1 b2 l M m :=
  ⟨h.at_ (b0, _) (by simp), h.at_ (b1, _) (by simp), h.at_ (b2, _) (by simp)⟩
set_option maxRecDepth 100000 in
set_option maxHeartbeats 4000000 in
theorem seal_any {w W : World} {g gc : Nat} {key : List Nat} {us : List Sd} {L : Blks} (hP : PP w W g gc key us L) (hus : us.length ≤ 1000) (hk : IsKey key) (l : Int) (M : Nat) (m : Int) (hl : I64 l) (hM : M < 18446744073709551616) (hm : I64 m) (xs : List Nat) (hx : IsLine xs) :
    Calls Try.prog 12 #[.pointer (some ⟨g, 0, none⟩), .int .i64 l, .int .u64 (M : Int), .int .i64 m, .agg (arrV xs)] W fun e w' => e = .returned (.agg (arrV (crL key l M m xs))) ∧ PP w w' g gc key (us ++ [sdOf l M m 0, sdOf l M m 1]) L := by
  have CR := Lib.hid (fun W b0 b1 b2 hp hB => crossed_any g gc key hk b0 b1 b2 l M m hl hM hm xs hx W hp hB)
  have XL := Lib.hid hx.len
  have YL := Lib.hid (crL_ok hk l M m hx).len
  generalize hYe : crL key l M m xs = Y at CR YL
  replace hYe := Lib.hid hYe
  obtain ⟨v0, N0, hr0, h0⟩ := hP
  replace h0 : St w W (SL g gc key v0 N0 L) := h0
  clear hk hl hM hm hx
  refine callsIn_wide.1 (callsIn_of_wp_marks (n := 8) Try.func12 rfl trivial ?_ rfl)
  simp only [Try.ntmps12, List.size_toArray, List.length_cons, List.length_nil, Nat.reduceAdd, Nat.reduceSub, Array.replicate_succ, Array.replicate_zero, List.push_toArray, List.append_toArray, List.nil_append, List.cons_append]
  refine wpIn_wide.2 ?_
  go_wp2_with (first
    | (have _ := h0; refine wpList_box_st h0 31 _ rfl rfl #[.pointer (some ⟨g, 0, none⟩)] rfl ?_; clear h0; intro W1 h1 _ _; generalize W.heap.size = b5 at *)
    | (have _ := h1; refine wpList_box_st h1 36 _ rfl rfl (arrV xs) rfl ?_; clear h1; intro W2 h2 _ _; generalize W1.heap.size = b9 at *)
    | (have _ := h2; refine wpList_alloc_st h2 36 rfl rfl _ (arrV zs32) zero36 rfl ?_; clear h2; intro W3 h3 _ _; generalize W2.heap.size = b10 at *)
    | (go_at_call 26; refine (seeds_st h3 l M m).mono ?_; rintro e W4 ⟨b0, b1, b2, rfl, h4⟩; clear h3))
  have hs4 : St w W4 (SL g gc key v0 N0 (L ++ OW g b5 b9 b10 b0 b1 b2 xs l M m)) := by simpa [SL, OW, List.append_assoc] using h4
  clear h4
  have hBW : Bx3 W4 b0 b1 b2 l M m := bx3_of (X := []) (by simpa using hs4)
  have hsz := hs4.bel.size
  have hlow : ∀ x ∈ L, x.1 < W4.heap.size := fun x hx => heap_lt (hs4.at_ x (by simp [hx]))
  refine (wpIn_wide (n := 8)).1 ?_
  refine wpIn_rangeFunc_ownH (F := Fence.wide) rfl (by omega) (gf := 39) (lb := #[.pointer (some ⟨b0, 0, none⟩), .pointer (some ⟨b1, 0, none⟩), .pointer (some ⟨b2, 0, none⟩)]) rfl trivial (enters_of Try.func39 (by kernel_rfl) rfl)
    (seeds_stops 7 (by omega) b0 b1 b2 l M m W4 hBW) (fun h k => kp3_t h k) (kp3_b hBW) (Below.refl _ _) (fun _ => rfl)
    (fun pre X => ∃ v N, RL v (us ++ pre.map (sdOf l M m)) N ∧ St w X (SL g gc key v N (L ++ OW g b5 b9 b10 b0 b1 b2 xs l M m)))
    (fun _ _ _ => False)
    (fun pre X Y row hs hg hr => by
      obtain ⟨v, N, h1, h2⟩ := hs
      exact ⟨v, N, h1, h2.own hg hr hsz (SL.low h1.cells hlow OW.cells)⟩)
    (fun _ _ _ _ _ hs _ _ => hs)
    ⟨v0, N0, by simpa using hr0, hs4⟩
    (fun x a' X => ∃ (us' : List Sd) (v : Value) (N : Blks) (bx : Nat), RL v us' N ∧ St w X (SL g gc key v N (L ++ (OW g b5 b9 b10 b0 b1 b2 xs l M m ++ [(bx, C 42 (sdOf l M m x).arr)]))) ∧ a' = { tmps := #[.pointer (some ⟨g, 0, none⟩), .int .i64 l, .int .u64 (M : Int), .int .i64 m, .agg (arrV xs), .pointer (some ⟨b5, 0, none⟩), undef, undef, undef, .pointer (some ⟨b9, 0, none⟩), .pointer (some ⟨b10, 0, none⟩), .func (.func 39) #[] #[.pointer (some ⟨b0, 0, none⟩), .pointer (some ⟨b1, 0, none⟩), .pointer (some ⟨b2, 0, none⟩)], .pointer (some ⟨bx, 0, none⟩), .int .i64 l, .int .u64 (M : Int), .int .i64 m, .func (.func 39) #[] #[.pointer (some ⟨b0, 0, none⟩), .pointer (some ⟨b1, 0, none⟩), .pointer (some ⟨b2, 0, none⟩)], .func (.func 39) #[] #[.pointer (some ⟨b0, 0, none⟩), .pointer (some ⟨b1, 0, none⟩), .pointer (some ⟨b2, 0, none⟩)], .agg (sdOf l M m x).arr, undef, undef, undef, undef, undef, undef, undef, undef, undef, undef, undef, undef, undef, undef], defers := [] })
    (fun x a' u X Y row hs hg hr => by
      obtain ⟨us', v, N, bx, h0, h1, h3⟩ := hs
      exact ⟨us', v, N, bx, h0, h1.own hg hr hsz (SL.low h0.cells hlow (fun y hy => by
        rcases List.mem_append.1 hy with hy | hy
        · exact OW.cells y hy
        · rw [List.mem_singleton] at hy; subst hy; rfl)), h3⟩)
    ?assign ?body ?done ?stop
  case assign =>
    rintro lp pre x X K ⟨v, N, hr, hI⟩ hK
    have hf : ∀ (v : Value), Array.foldl (fun (t : Array Value) (x : Nat × Value) => t.setIfInBounds x.1 x.2) #[.pointer (some ⟨g, 0, none⟩), .int .i64 l, .int .u64 (M : Int), .int .i64 m, .agg (arrV xs), .pointer (some ⟨b5, 0, none⟩), undef, undef, undef, .pointer (some ⟨b9, 0, none⟩), .pointer (some ⟨b10, 0, none⟩), .func (.func 39) #[] #[.pointer (some ⟨b0, 0, none⟩), .pointer (some ⟨b1, 0, none⟩), .pointer (some ⟨b2, 0, none⟩)], undef, .int .i64 l, .int .u64 (M : Int), .int .i64 m, .func (.func 39) #[] #[.pointer (some ⟨b0, 0, none⟩), .pointer (some ⟨b1, 0, none⟩), .pointer (some ⟨b2, 0, none⟩)], .func (.func 39) #[] #[.pointer (some ⟨b0, 0, none⟩), .pointer (some ⟨b1, 0, none⟩), .pointer (some ⟨b2, 0, none⟩)], undef, undef, undef, undef, undef, undef, undef, undef, undef, undef, undef, undef, undef, undef, undef] (#[18].zip #[v]) = #[.pointer (some ⟨g, 0, none⟩), .int .i64 l, .int .u64 (M : Int), .int .i64 m, .agg (arrV xs), .pointer (some ⟨b5, 0, none⟩), undef, undef, undef, .pointer (some ⟨b9, 0, none⟩), .pointer (some ⟨b10, 0, none⟩), .func (.func 39) #[] #[.pointer (some ⟨b0, 0, none⟩), .pointer (some ⟨b1, 0, none⟩), .pointer (some ⟨b2, 0, none⟩)], undef, .int .i64 l, .int .u64 (M : Int), .int .i64 m, .func (.func 39) #[] #[.pointer (some ⟨b0, 0, none⟩), .pointer (some ⟨b1, 0, none⟩), .pointer (some ⟨b2, 0, none⟩)], .func (.func 39) #[] #[.pointer (some ⟨b0, 0, none⟩), .pointer (some ⟨b1, 0, none⟩), .pointer (some ⟨b2, 0, none⟩)], v, undef, undef, undef, undef, undef, undef, undef, undef, undef, undef, undef, undef, undef, undef] := fun v => by simp
    unfold sdE
    rw [hf]
    refine regionIn_of letsOut_no rfl ?_
    go_wp2_with (first
      | (have _ := hI; refine wpList_alloc_st hI 42 rfl rfl _ #[.int .i64 0, .int .u64 0, .int .i64 0, .int .i64 0] zero42 rfl ?_; intro V1 k1 _ kb1; replace k1 := k1.front)
      | (have _ := k1; refine wpList_store_st (arr' := (sdOf l M m x).arr) k1 0 rfl 42 _ _ rfl rfl rfl rfl sz42 rfl (by simp [Sd.arr, Value.oneCell']) ?_; intro V2 k2 kg2))
    have k3 : St w V2 (SL g gc key v N (L ++ (OW g b5 b9 b10 b0 b1 b2 xs l M m ++ [(X.heap.size, C 42 (sdOf l M m x).arr)]))) := by
      have e : SL g gc key v N (L ++ (OW g b5 b9 b10 b0 b1 b2 xs l M m ++ [(X.heap.size, C 42 (sdOf l M m x).arr)])) = SL g gc key v N (L ++ OW g b5 b9 b10 b0 b1 b2 xs l M m) ++ [(X.heap.size, C 42 (sdOf l M m x).arr)] := by simp [SL, List.append_assoc]
      rw [e]
      exact St.perm (show St w V2 ((X.heap.size, C 42 (sdOf l M m x).arr) :: SL g gc key v N (L ++ OW g b5 b9 b10 b0 b1 b2 xs l M m)) from k2) (List.perm_append_singleton _ _).symm
    have hBx := bx3_of (X := []) (by simpa using hI)
    have hBv := bx3_of k3
    refine hK _ _ (((keeps_call kb1).trans (keeps_at kg2 (k1.get 0 rfl))).from _) ⟨hBv.h0.trans hBx.h0.symm, hBv.h1.trans hBx.h1.symm, hBv.h2.trans hBx.h2.symm⟩ ⟨v, N, hr, ?_⟩ ⟨_, v, N, X.heap.size, hr, k3, rfl⟩
    exact St.tail (show St w V2 ((X.heap.size, C 42 (sdOf l M m x).arr) :: SL g gc key v N (L ++ OW g b5 b9 b10 b0 b1 b2 xs l M m)) from k2)
  case body =>
    rintro lp pre x a' X hlp ⟨rr, hrr⟩ ⟨v1, N1, hr1, hI⟩ ⟨us', v, N, bx, hr, hX, rfl⟩ hlen
    have hbx0 := bx3_of hX
    have hv : v1 = v ∧ us' = us ++ pre.map (sdOf l M m) := by
      have e1 := hI.get 0 rfl
      have e2 := hX.get 0 rfl
      rw [e1] at e2
      injection e2 with e2
      injection e2 with e2
      have e3 := congrArg (·[1]?) e2
      simp only [List.getElem?_toArray, List.getElem?_cons_succ, List.getElem?_cons_zero, Option.some.injEq] at e3
      subst e3
      exact ⟨rfl, (RL.uniq hr (fun y hy => hX.at_ y (by simp [hy])) hr1 (fun y hy => hI.at_ y (by simp [hy]))).1⟩
    obtain ⟨rfl, rfl⟩ := hv
    clear hI hr1 N1 hrr hlp
    have hle : (us ++ pre.map (sdOf l M m)).length + 1 ≤ 100000 := by rw [List.length_append, List.length_map]; omega
    have hmap : us ++ List.map (sdOf l M m) (pre ++ [x]) = (us ++ pre.map (sdOf l M m)) ++ [sdOf l M m x] := by rw [List.map_append, List.append_assoc]; rfl
    replace hmap := Lib.hid hmap
    generalize us ++ pre.map (sdOf l M m) = uu at *
    refine wpIn_block ?_
    have HR := Lib.hid hr
    have HS0 := Lib.hid hX.drew
    have K0 := Lib.hid (KeepsOthers.drew X)
    have H0 := Lib.hid (show At X.drew g 59 #[.pointer (some ⟨gc, 0, none⟩), v1] ∧ At X.drew b5 31 #[.pointer (some ⟨g, 0, none⟩)] ∧ At X.drew bx 42 (sdOf l M m x).arr from ⟨hX.get 0 rfl, hX.at_ (b5, _) (by simp), hX.at_ (bx, _) (by simp)⟩)
    clear hX hr
    have hlen1 : (uu ++ [sdOf l M m x]).length = uu.length + 1 := by simp
    obtain ⟨v, rfl⟩ : ∃ v, v = v1 := ⟨_, rfl⟩
    refine regionIn_last (fun W => At W g 59 #[.pointer (some ⟨gc, 0, none⟩), v] ∧ At W b5 31 #[.pointer (some ⟨g, 0, none⟩)] ∧ At W bx 42 (sdOf l M m x).arr) 10 (by kernel_rfl) (letsOut_block letsOut_ownG) rfl ?_
    generalize X.drew = V0 at *
    refine AnyT.take (i := 0) (v := .pointer (some ⟨g, 0, none⟩)) rfl (by kernel_rfl) (by kernel_rfl) (by kernel_rfl) (by kernel_rfl) (by decide) (fun _ _ _ h => h) (Or.inl ⟨by rfl, fun W hW => by have hc := (hW.2.1.cell 0); clear hW; go_simp⟩) H0.out ?_
    try simp only [Act.put, List.getElem_toArray, List.getElem_cons_succ, List.getElem_cons_zero, List.setIfInBounds_toArray, List.set_cons_zero, List.set_cons_succ]
    refine AnyT.take (i := 1) (v := .pointer (some ⟨g, 0, none⟩)) rfl (by kernel_rfl) (by kernel_rfl) (by kernel_rfl) (by kernel_rfl) (by decide) (fun _ _ _ h => h) (Or.inl ⟨by rfl, fun W hW => by have hc := (hW.2.1.cell 0); clear hW; go_simp⟩) H0.out ?_
    try simp only [Act.put, List.getElem_toArray, List.getElem_cons_succ, List.getElem_cons_zero, List.setIfInBounds_toArray, List.set_cons_zero, List.set_cons_succ]
    refine AnyT.take (i := 2) (v := .pointer (some ⟨g, 0, none⟩)) rfl (by kernel_rfl) (by kernel_rfl) (by kernel_rfl) (by kernel_rfl) (by decide) (fun _ _ _ h => h) (Or.inl ⟨by rfl, fun W hW => by clear hW; go_simp⟩) H0.out ?_
    try simp only [Act.put, List.getElem_toArray, List.getElem_cons_succ, List.getElem_cons_zero, List.setIfInBounds_toArray, List.set_cons_zero, List.set_cons_succ]
    refine AnyT.take (i := 3) (v := .pointer (some ⟨g, 1, none⟩)) rfl (by kernel_rfl) (by kernel_rfl) (by kernel_rfl) (by kernel_rfl) (by decide) (fun _ _ _ h => h) (Or.inl ⟨by rfl, fun W hW => by clear hW; go_simp⟩) H0.out ?_
    try simp only [Act.put, List.getElem_toArray, List.getElem_cons_succ, List.getElem_cons_zero, List.setIfInBounds_toArray, List.set_cons_zero, List.set_cons_succ]
    refine AnyT.take (i := 4) (v := v) rfl (by kernel_rfl) (by kernel_rfl) (by kernel_rfl) (by kernel_rfl) (by decide) (fun _ _ _ h => h) (Or.inl ⟨by rfl, fun W hW => by have hc := (hW.1.cell 1); clear hW; go_simp⟩) H0.out ?_
    try simp only [Act.put, List.getElem_toArray, List.getElem_cons_succ, List.getElem_cons_zero, List.setIfInBounds_toArray, List.set_cons_zero, List.set_cons_succ]
    refine AnyT.take (i := 5) (v := .agg (sdOf l M m x).arr) rfl (by kernel_rfl) (by kernel_rfl) (by kernel_rfl) (by kernel_rfl) (by decide) (fun _ _ _ h => h) (yields_at 42 _ _ rfl (by rfl) rfl Try.underlying42 rfl sz42 (fun W hW => hW.2.2)) H0.out ?_
    try simp only [Act.put, List.getElem_toArray, List.getElem_cons_succ, List.getElem_cons_zero, List.setIfInBounds_toArray, List.set_cons_zero, List.set_cons_succ]
    refine AnyT.one (i := 6) (by kernel_rfl) rfl (fun K hK => ?_)
    rw [if_pos (by rfl)]
    refine wp_build1G HS0.out (.tmp 24) (sdOf l M m x) rfl rfl ?_
    intro V1 h1 hb1
    have H1_ := Lib.hid (show At V1 g 59 #[.pointer (some ⟨gc, 0, none⟩), v] ∧ At V1 b5 31 #[.pointer (some ⟨g, 0, none⟩)] ∧ At V1 bx 42 (sdOf l M m x).arr from ⟨H0.out.1.call hb1, H0.out.2.1.call hb1, H0.out.2.2.call hb1⟩)
    have KA := Lib.hid (K0.out.trans (keeps_call hb1))
    generalize V0.heap.size = nb at *
    have HS1 := Lib.hid h1
    clear h1 hb1
    refine hK.out _ _ (fun _ => H1_.out) ?_
    clear hK K
    try simp only [Act.put, List.getElem_toArray, List.getElem_cons_succ, List.getElem_cons_zero, List.setIfInBounds_toArray, List.set_cons_zero, List.set_cons_succ]
    refine AnyT.one (i := 7) (by kernel_rfl) rfl (fun K hK => ?_)
    rw [if_pos (by rfl)]
    have hq := Lib.hid (St.perm HS1.out (SLp (x := (nb, C 42 (sdOf l M m x).cs.toArray))))
    refine wp_append_rlG (ys := [sdOf l M m x]) HR.out hq.out (new_row HS1.out) (.tmp 23) (.tmp 25) rfl (by rfl) rfl (by omega) ?_
    intro v1 V2 M1 hr1 h2 hg2
    have KB := Lib.hid (KA.out.trans (keeps_grown hg2 (HR.out.ownC (fun y hy => hq.out.at_ y (List.mem_append_left _ hy)))))
    have H2_ := Lib.hid (show At V2 g 59 #[.pointer (some ⟨gc, 0, none⟩), v] ∧ At V2 b5 31 #[.pointer (some ⟨g, 0, none⟩)] ∧ At V2 bx 42 (sdOf l M m x).arr from ⟨h2.at_ (_, _) (by simp), h2.at_ (_, _) (by simp), h2.at_ (_, _) (by simp)⟩)
    have HR1 := Lib.hid hr1
    have HS2 := Lib.hid h2
    clear h2 hr1 hg2
    refine hK.out _ _ (fun _ => H2_.out) ?_
    clear hK K
    try simp only [Act.put, List.getElem_toArray, List.getElem_cons_succ, List.getElem_cons_zero, List.setIfInBounds_toArray, List.set_cons_zero, List.set_cons_succ]
    refine AnyT.one (i := 8) (by kernel_rfl) rfl (fun K hK => ?_)
    go_simp
    refine hK.out _ _ (fun _ => H2_.out) ?_
    clear hK K
    try simp only [Act.put, List.getElem_toArray, List.getElem_cons_succ, List.getElem_cons_zero, List.setIfInBounds_toArray, List.set_cons_zero, List.set_cons_succ]
    refine AnyT.take (i := 9) (v := .pointer (some ⟨g, 1, none⟩)) rfl (by kernel_rfl) (by kernel_rfl) (by kernel_rfl) (by kernel_rfl) (by decide) (fun _ _ _ h => h) (Or.inl ⟨by rfl, fun W hW => by clear hW; go_simp⟩) H2_.out ?_
    try simp only [Act.put, List.getElem_toArray, List.getElem_cons_succ, List.getElem_cons_zero, List.setIfInBounds_toArray, List.set_cons_zero, List.set_cons_succ]
    refine AnyT.one (i := 10) (by kernel_rfl) rfl (fun K hK => ?_)
    rw [if_pos (by rfl)]
    have hq3 := Lib.hid (St.perm HS2.out (SLq (M := M1)))
    refine wp_cell_stG hq3.out 0 rfl 33 (.tmp 28) (.tmp 26) rfl 1 v1 rfl rfl (by simp) HR1.out.val.1 HR1.out.val.2 sz33 ?_
    intro V3 hs3 hg3
    have KC := Lib.hid (KB.out.trans (keeps_at hg3 (hq3.out.get 0 rfl)))
    have HS3 := Lib.hid hs3
    clear hs3 hg3
    refine hK.out _ _ (fun h => absurd rfl h) ?_
    clear hK K
    try simp only [Act.put, List.getElem_toArray, List.getElem_cons_succ, List.getElem_cons_zero, List.setIfInBounds_toArray, List.set_cons_zero, List.set_cons_succ]
    refine AnyT.done (by kernel_rfl) ?_ _
    have h9 : St w V3 ((g, C 59 #[.pointer (some ⟨gc, 0, none⟩), v1]) :: (gc, C 78 (arrV (A.cells key))) :: (nb, C 42 (sdOf l M m x).cs.toArray) :: (M1 ++ (L ++ (OW g b5 b9 b10 b0 b1 b2 xs l M m ++ [(bx, C 42 (sdOf l M m x).arr)])))) := HS3.out
    have h10 : St w V3 (SL g gc key v1 M1 (L ++ (OW g b5 b9 b10 b0 b1 b2 xs l M m ++ [(bx, C 42 (sdOf l M m x).arr)]))) := h9.sub (((List.sublist_cons_self _ _).cons_cons _).cons_cons _)
    have hbx1 := bx3_of h10
    refine ⟨KC.out.from _, ⟨hbx1.h0.trans hbx0.h0.symm, hbx1.h1.trans hbx0.h1.symm, hbx1.h2.trans hbx0.h2.symm⟩, v1, M1, by rw [hmap.out]; exact HR1.out, ?_⟩
    exact h10.sub ((((List.Sublist.refl M1).append ((List.Sublist.refl L).append (List.sublist_append_left _ _))).cons_cons _).cons_cons _)
  case done =>
    rintro D ys X hD rfl ⟨v, N, hr, hI⟩ hK
    have hI2 : St w X (SL g gc key v N (L ++ OW g b5 b9 b10 b0 b1 b2 xs l M m)) := hI
    have hBX : Bx3 X b0 b1 b2 l M m := bx3_of (X := []) (by simpa using hI2)
    have hHP : HasPads X g gc key := ⟨⟨v, hI2.get 0 rfl⟩, hI2.get 1 rfl⟩
    have c5 : X.cell? ⟨b5, 0, none⟩ = some (.pointer (some ⟨g, 0, none⟩)) := (show At X b5 31 #[.pointer (some ⟨g, 0, none⟩)] from hI2.at_ (b5, _) (by simp)).cell 0
    have a9 : At X b9 36 (arrV xs) := hI2.at_ (b9, _) (by simp)
    clear hI
    go_wp2_with (first
      | (have _ := a9; refine wpList_load_at a9 36 _ _ rfl rfl rfl Try.underlying36 rfl (by rw [A.arrV_size, XL.out]; exact sz36) ?_)
      | (go_at_call 25; refine (CR.out _ b0 b1 b2 hHP hBX).mono ?_; rintro e X1 ⟨rfl, hb1⟩; have k1 := hI2.call hb1; have K1 := Lib.hid (keeps_call hb1); clear hI2 hb1 a9 c5)
      | (have _ := k1; refine wpList_store_all (arr' := arrV Y) (show At X1 b10 36 (arrV zs32) from k1.at_ (b10, _) (by simp)) 36 _ _ rfl rfl rfl rfl (by rw [A.arrV_size, YL.out]; exact sz36) (by rw [A.arrV_size, A.arrV_size, YL.out]; rfl) (A.arrV_all _) ?_; intro X2 k2 kg2))
    have hbD : b10 ≠ D := by
      rintro rfl
      have h1 : At X1 b10 36 (arrV zs32) := k1.at_ (b10, _) (by simp)
      have h2 := K1.out.same _ _ hK rfl
      unfold At at h1
      rw [h1] at h2
      injection h2 with h2
      cases h2
    have e : SL g gc key v N (L ++ OW g b5 b9 b10 b0 b1 b2 xs l M m) = SL g gc key v N L ++ OW g b5 b9 b10 b0 b1 b2 xs l M m := by simp [SL, List.append_assoc]
    rw [e] at k1
    have hne := (List.pairwise_append.1 k1.nd).2.2
    have k3 : St w X2 (SL g gc key v N L) := k1.pre.grown kg2 (fun x hx h => hne x hx (b10, C 36 (arrV zs32)) (by simp) (by injection h with h; exact h.symm)) (fun k h => by injection h with h; subst h; exact k1.lo (b10, C 36 (arrV zs32)) (by simp))
    have hK' := (K1.out.trans (keeps_at kg2 (k1.at_ (b10, C 36 (arrV zs32)) (by simp)))).same D _ hK rfl
    refine ⟨by simp, .inl ⟨_, _, rfl, run_takeDeferred hK', ?_⟩⟩
    have hb : A.Blk (X2.putObj D (.deferred none)) b10 36 Y := (World.putObj_heap_other hbD).trans k2
    refine ⟨_, A.results_arr Try.results12 _ _ b10 rfl _ (hb.loadAll 36 _ YL.out Try.underlying36 rfl sz36), rfl, v, N, hr, ?_⟩
    exact k3.own (grownBy_putObj' X2 D (.deferred none)) (fun r e => by injection e with e; subst e; exact ⟨hD, _, hK', rfl⟩) hsz (by simpa using SL.low (N := []) hr.cells hlow (by simp))
  case stop =>
    rintro D c pre W _ _ h _
    exact h.elim
end Go.Proofs.Ytfbgpfiodgibbaa
