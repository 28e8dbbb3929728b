/- The items on the ways of some. No statement is proved here. -/
import Derived.Test.YtnogmfpaipjdaaaMeth3
import Derived.Test.YtnogmfpaipjdaaaTill
import Derived.Deep.LoopGhost
namespace Go.Proofs.Ytnogmfpaipjdaaa
open Go.RowKit
open P (Pl right hasI vals)
set_option maxRecDepth 20000
set_option linter.unusedVariables false
set_option linter.unusedSimpArgs false

/-- An item's way: it, and all above it. -/
def wayF (p : Pl) : Nat → It → List It
  | 0, x => [x]
  | n + 1, x => x :: (if hasUp p x = true then wayF p n (upI p x) else [])
def way (p : Pl) (x : It) : List It := wayF p 5 x
def ways (p : Pl) (ks : List It) : List It := ks.flatMap (way p)
/-- So many steps are enough. -/
def Fuel (p : Pl) (n : Nat) (x : It) : Prop := hasUp p x = true → (P.Lv p : Int) ≤ x.l + n + 1
theorem hasUp_facts {p : Pl} {x : It} (h : hasUp p x = true) : isIt p x = true ∧ 0 ≤ x.l ∧ x.l + 2 ≤ (P.Lv p : Int) ∧ (upI p x).l = x.l + 1 ∧ (upI p x).x = x.x / p.ar := by
  have h0 : P.hasU p x.l x.x = true := h
  have e1 : P.upL p x.l x.x = x.l + 1 := by unfold P.upL; rw [if_pos h0]
  have e2 : P.upX p x.l x.x = x.x / p.ar := by unfold P.upX; rw [if_pos h0]
  unfold P.hasU at h0
  simp only [Bool.and_eq_true, Bool.not_eq_true', decide_eq_false_iff_not] at h0
  obtain ⟨_, k, j, h1, h2, h3, _⟩ := P.hasI_facts h0.1
  exact ⟨h0.1, by omega, by omega, e1, e2⟩
theorem wayF_none {p : Pl} {x : It} (h : hasUp p x = false) (n : Nat) : wayF p n x = [x] := by
  cases n with
  | zero => rfl
  | succ n => unfold wayF; rw [if_neg (by rw [h]; simp)]
theorem wayF_up {p : Pl} {x : It} {n : Nat} (h : hasUp p x = true) (hf : Fuel p n x) : ∃ m, n = m + 1 ∧ wayF p n x = x :: wayF p m (upI p x) ∧ Fuel p m (upI p x) := by
  obtain ⟨_, h1, h2, h3, _⟩ := hasUp_facts h
  have := hf h
  obtain ⟨m, rfl⟩ : ∃ m, n = m + 1 := ⟨n - 1, by omega⟩
  refine ⟨m, rfl, ?_, fun _ => by omega⟩
  conv => lhs; unfold wayF
  rw [if_pos h]
theorem fuel5 (p : Pl) (x : It) : Fuel p 5 x := fun h => by
  have := P.Lv_le p
  obtain ⟨_, h1, _⟩ := hasUp_facts h
  omega
theorem wayF_len (p : Pl) : ∀ (n : Nat) (x : It), (wayF p n x).length ≤ n + 1
  | 0, x => by simp [wayF]
  | n + 1, x => by
    unfold wayF
    split
    · have := wayF_len p n (upI p x); simp; omega
    · simp
theorem ways_len (p : Pl) (ks : List It) : (ways p ks).length ≤ 6 * ks.length := by
  induction ks with
  | nil => simp [ways]
  | cons x ks ih =>
    have := wayF_len p 5 x
    simp only [ways, List.flatMap_cons, List.length_append, List.length_cons] at ih ⊢
    have e : (way p x).length ≤ 6 := this
    omega
theorem ways_take (p : Pl) (ks : List It) (k : Nat) (x : It) (h : ks[k]? = some x) : ways p (ks.take (k + 1)) = ways p (ks.take k) ++ wayF p 5 x := by
  rw [List.take_add_one, h]
  simp [ways, way]
section
variable {ops : Array Oper} {rest : List Oper} {o : Oper} {a : Act} {w W : World} {K : Act → World → Prop} {Q : Exit → Act → World → Prop} {L : Blks}
theorem wp_load_run {t : TypeId} {b off : Nat} {v : Value} (hl : (loadVar t ⟨b, off, none⟩).run Try.prog W = .ok v W) (x : Operand) (ho : o.op = .load t x) (hx : a.eval x = .pointer (some ⟨b, off, none⟩))
    (k : K (a.put o.dst v) W) : o.wp Try.prog a W K Q := by
  unfold Oper.wp execOp
  simp only [ho, hx, Instr.loadAt, Instr.sureAddr, Sem.run_bind, Sem.run_pure, Result.andThen_ok, hl]
  exact k
/-- A row is stored into one of the call's own blocks: the operation by itself. -/
theorem wp_store_all {g : Nat} {t : TypeId} {arr arr' : Array Value} (h : At W g t arr) (ty : TypeId) (x y : Operand) (ho : o.op = .store ty x y) (hx : a.eval x = .pointer (some ⟨g, 0, none⟩))
    (hy : a.eval y = .agg arr') (hs : (Try.prog.info? ty).map (·.size) = some arr'.size) (hl : arr'.size = arr.size) (h1 : arr'.all (·.oneCell') = true) (k : ∀ W', At W' g t arr' → W.grownBy W' (some g) → K (a.put o.dst undef) W') : o.wp Try.prog a W K Q :=
  wp_store_row ty x y ho g arr' hx hy t arr h hs hl.symm h1 (k _ h.putAll (grown_setRow W g arr'))
theorem wp_store_itO (h : St w W L) (i : Nat) {g : Nat} {d : It} (c : It) (hi : L[i]? = some (g, C 42 d.arr)) (x y : Operand) (ho : o.op = .store 42 x y)
    (hx : a.eval x = .pointer (some ⟨g, 0, none⟩)) (hy : a.eval y = .agg c.arr)
    (k : ∀ W', St w W' (L.set i (g, C 42 c.arr)) → K (a.put o.dst undef) W') : o.wp Try.prog a W K Q :=
  wp_store_all (h.get i hi) 42 x y ho hx hy (by rw [c.arr_size]; exact sz42) (by rw [c.arr_size, d.arr_size]) c.arr_one fun W' hA hg => k W' (h.put i hi hA hg)
end
theorem at_itr {W : World} {B n c : Nat} {A : Option Addr} {ks : List It} (h : ERow W B A n c ks) (k : Nat) (x : It) (hx : ks[k]? = some x) : ∃ b o, A = some ⟨b, o, none⟩ ∧ b < B ∧ W.rangeAt b (o + k * 2) (Elt.cs x) := h.at_ k x hx
/-- What a call has made of its own, behind what there was. -/
theorem St.join {w W W' : World} {L M : Blks} (h : St w W L) (h2 : St W W' M) : St w W' (M ++ L) := by
  refine ⟨fun x hx => ?_, fun x hx => ?_, ?_, h.bel.trans (h2.bel.mono h.bel.size)⟩
  · rcases List.mem_append.1 hx with hx | hx
    · exact h2.at_ x hx
    · exact (h2.bel.block x.1 (heap_lt (h.at_ x hx))).trans (h.at_ x hx)
  · rcases List.mem_append.1 hx with hx | hx
    · exact Nat.le_trans h.bel.size (h2.lo x hx)
    · exact h.lo x hx
  · rw [List.pairwise_append]
    refine ⟨h2.nd, h.nd, fun x hx y hy => ?_⟩
    have h1 := h2.lo x hx
    have h3 := heap_lt (h.at_ y hy)
    omega
theorem WC.join {w W W' : World} {g b : Nat} {p : Pl} {c : Cs} {L M : Blks} (h : WC w W g b p c L) (h2 : St W W' M) : WC w W' g b p c (M ++ L) := by
  obtain ⟨Y, _, _, hs, up⟩ := h.lift
  exact up _ _ ((hs.join h2).perm (List.perm_append_comm_assoc M Y L))
def OwRel (W : World) (p : Pl) (ks : List It) (n : Nat) (v i : Value) (wr : World) : Prop :=
  ∃ (k : Nat) (M : Blks), k ≤ n ∧ i = .int .i64 (k : Nat) ∧ RL v (ways p (ks.take k)) M ∧ St W wr M
def IwRel (W : World) (p : Pl) (T : List It) (xb f : Nat) (v s : Value) (wr : World) : Prop :=
  ∃ (acc : List It) (M : Blks) (x : It) (n : Nat) (ok : Bool), s = .bool ok ∧ RL v acc M ∧ St W wr ((xb, C 42 x.arr) :: M) ∧ (ok = true → acc ++ wayF p n x = T ∧ n < f ∧ Fuel p n x) ∧ (ok = false → acc = T)
attribute [local irreducible] It.arr Cd.arr
section
variable {w W W' : World} {g b : Nat} {p : Pl} {l : List Cd} {L M : Blks}
set_option maxHeartbeats 4000000 in
theorem onWays_any (hg : g < W.heap.size) (hp : W.rangeAt g 0 p.cs) (A : Option Addr) (n c : Nat) (ks : List It) (hk : ERow W W.heap.size A n c ks) (hn : n ≤ 1000) :
    Calls Try.prog 38 #[.pointer (some ⟨g, 0, none⟩), .slice A n c] W fun e W' => ∃ v M, e = .returned v ∧ RL v (ways p ks) M ∧ St W W' M := by
  have PA := Lib.hid (fun x V => parentP_any p x V)
  have S0 := St.nil W
  have hl := hk.len
  have HK := Lib.hid hk
  have HP := Lib.hid hp
  clear hk hp
  replace hl := Lib.hid hl
  go_enter Try.func38, Try.ntmps38
  go_wp2
  go_loopw [5, 11] (OwRel W p ks n) (fun _ i _ => n - (intOf i).toNat)
  case atStart => exact ⟨0, [], by omega, rfl, RL.nil_, S0⟩
  case round =>
    obtain ⟨k, M, hkn, rfl, hr, hst⟩ := hrel
    clear S0
    by_cases hlt : k < n
    · have g1 : ((k : Int) < (n : Int)) = True := eq_true (by omega)
      have b1 : k < ks.length := by have := hl.out; omega
      have hx : ks[k]? = some ks[k] := List.getElem?_eq_getElem b1
      generalize ks[k] = x0 at *
      clear b1
      obtain ⟨bb, o, rfl, hb2, r⟩ := at_itr HK.out k x0 hx
      have r' : wr.rangeAt bb (o + k * 2) (Elt.cs x0) := rangeAt_keep r (hst.bel.block _ hb2)
      have EN := Lib.hid (ways_take p ks k x0 hx)
      have TL := Lib.hid (ways_len p (ks.take (k + 1)))
      have TK := Lib.hid (show (ks.take (k + 1)).length ≤ 1001 by rw [List.length_take]; omega)
      obtain ⟨T, hTT0⟩ : ∃ T, T = ways p (ks.take (k + 1)) := ⟨_, rfl⟩
      rw [← hTT0] at EN TL
      replace hTT0 := Lib.hid hTT0
      generalize ways p (ks.take k) = acc0 at *
      clear r hb2 hx
      go_wp2_with (first
        | (refine wpList_loadIt (e := x0) r' _ rfl rfl rfl ?_; clear r')
        | (have _ := hst; refine wpList_alloc_it hst rfl rfl ?_; clear hst; intro X1 h1 _; generalize wr.heap.size = xb at *)
        | (have _ := h1; refine wpList_store_it h1 0 x0 rfl _ _ rfl rfl rfl rfl ?_; clear h1; intro X2 h2 _))
      go_loopg [5, 8] 7 (fun f s5 s8 wr => IwRel W p T xb f s5 s8 wr)
      case atStart => exact ⟨acc0, M, x0, 5, true, rfl, hr, h2, fun _ => ⟨EN.out.symm, by omega, fuel5 p x0⟩, fun h => by cases h⟩
      case round =>
        obtain ⟨acc, M1, x, m, ok, rfl, hr1, hst1, hT, hF⟩ := hrel
        clear h2 hr
        cases ok with
        | false =>
          have hac := Lib.hid (hF rfl)
          clear hF hT
          go_wp2
          go_roundw
          case rel => exact ⟨k + 1, M1, by omega, by go_num, by rw [← hTT0.out, ← hac.out]; exact hr1, hst1.tail⟩
          case measure => simp [intOf]; omega
        | true =>
        have hTT := Lib.hid (hT rfl)
        clear hF hT
        have q1 : wr.rangeAt xb 0 (Elt.cs x) := at_it (hst1.get 0 rfl)
        have LE := Lib.hid (show acc.length + 1 ≤ 100000 by
          have h1 := congrArg List.length hTT.out.1
          have h2 := TL.out
          have h3 := TK.out
          rw [List.length_append] at h1
          omega)
        go_wp2_with (first
          | (refine wpList_loadIt (e := x) q1 _ rfl rfl rfl ?_; clear q1)
          | (have _ := hst1; refine wpList_build1_st hst1 _ x rfl rfl (It.arr_eq x).symm ?_; clear hst1; intro Y1 h1; have rw1 := Lib.hid (new_row h1); generalize wr.heap.size = nw at *)
          | (have _ := h1; refine wpList_append_rl (ys := [x]) (L := [(nw, _), (xb, _)]) hr1 (h1.perm (List.perm_append_comm (l₁ := [_, _]) (l₂ := M1))) rw1.out _ _ rfl rfl rfl rfl LE.out ?_; clear h1 hr1; intro v2 Y2 M2 hr2 h2; replace h2 := (h2.perm List.perm_append_comm).tail))
        generalize hU : P.upC p x.l x.x = UC at *
        have PX := Lib.hid (show ∀ V, Calls Try.prog 55 #[.agg p.arr, .agg x.arr] V fun e W' => e = .returned (.tuple #[.agg (upI p x).arr, .int .i64 UC, .bool (hasUp p x)]) ∧ Below V.heap.size V W' from fun V => by rw [← hU]; exact PA.out x V)
        clear hU
        have NXT := Lib.hid (show acc ++ [x] ++ (if hasUp p x = true then wayF p (m - 1) (upI p x) else []) = T ∧ (hasUp p x = true → m - 1 < gk - 1 ∧ Fuel p (m - 1) (upI p x)) ∧ 0 < gk from by
          have h1 := hTT.out.1
          refine ⟨?_, fun hu => ?_, by have := hTT.out.2.1; omega⟩
          · cases hB : hasUp p x with
            | false => rw [if_neg (by simp), List.append_nil, ← h1, wayF_none hB]
            | true =>
              obtain ⟨m', e1, e2, e3⟩ := wayF_up hB hTT.out.2.2
              rw [if_pos rfl, ← h1, e2, e1]; simp
          · obtain ⟨m', e1, e2, e3⟩ := wayF_up hu hTT.out.2.2
            subst e1
            exact ⟨by have := hTT.out.2.1; omega, e3⟩)
        clear hTT
        generalize hasUp p x = B at *
        have HS0 := Lib.hid (show St W Y2.drew ((xb, C 42 x.arr) :: M2) from h2.drewN 1)
        have H0 := Lib.hid (show (loadVar 28 ⟨g, 0, none⟩).run Try.prog Y2.drew = .ok (.agg p.arr) Y2.drew ∧ (loadVar 42 ⟨xb, 0, none⟩).run Try.prog Y2.drew = .ok (.agg x.arr) Y2.drew from ⟨load_pl (rangeAt_keep HP.out (HS0.out.bel.block _ hg)), load_itA (HS0.out.get 0 rfl)⟩)
        clear h2
        refine wp_region_till (fun W => (loadVar 28 ⟨g, 0, none⟩).run Try.prog W = .ok (.agg p.arr) W ∧ (loadVar 42 ⟨xb, 0, none⟩).run Try.prog W = .ok (.agg x.arr) W) 5 (by kernel_rfl) ?_
        refine AnyC.take (i := 4) (v := .agg x.arr) rfl (by kernel_rfl) (by kernel_rfl) (by kernel_rfl) (by kernel_rfl) (by decide) (by kernel_rfl) (fun _ _ _ h => h) (yields_run _ rfl (by rfl) rfl (fun W hW => hW.2)) H0.out ?_
        try simp only [Act.put, List.getElem_toArray, List.getElem_cons_succ, List.getElem_cons_zero, List.setIfInBounds_toArray, List.set_cons_zero, List.set_cons_succ]
        refine AnyC.one (i := 0) (by kernel_rfl) rfl (fun K hK => ?_)
        go_simp
        refine hK.out _ _ (fun _ => H0.out) ?_
        clear hK K
        try simp only [Act.put, List.getElem_toArray, List.getElem_cons_succ, List.getElem_cons_zero, List.setIfInBounds_toArray, List.set_cons_zero, List.set_cons_succ]
        refine AnyC.one (i := 1) (by kernel_rfl) rfl (fun K hK => ?_)
        go_simp
        refine hK.out _ _ (fun _ => H0.out) ?_
        clear hK K
        try simp only [Act.put, List.getElem_toArray, List.getElem_cons_succ, List.getElem_cons_zero, List.setIfInBounds_toArray, List.set_cons_zero, List.set_cons_succ]
        refine AnyC.one (i := 2) (by kernel_rfl) rfl (fun K hK => ?_)
        go_simp
        refine hK.out _ _ (fun _ => H0.out) ?_
        clear hK K
        try simp only [Act.put, List.getElem_toArray, List.getElem_cons_succ, List.getElem_cons_zero, List.setIfInBounds_toArray, List.set_cons_zero, List.set_cons_succ]
        refine AnyC.one (i := 3) (by kernel_rfl) rfl (fun K hK => ?_)
        rw [if_pos (by rfl)]
        refine wp_load_run H0.out.1 (.tmp 19) rfl rfl ?_
        refine hK.out _ _ (fun _ => H0.out) ?_
        clear hK K
        try simp only [Act.put, List.getElem_toArray, List.getElem_cons_succ, List.getElem_cons_zero, List.setIfInBounds_toArray, List.set_cons_zero, List.set_cons_succ]
        refine AnyC.one (i := 5) (by kernel_rfl) rfl (fun K hK => ?_)
        go_simp
        go_at_call 55
        refine (PX.out _).mono ?_
        rintro e V1 ⟨rfl, hb1⟩
        have HS1 := Lib.hid (HS0.out.call hb1)
        clear hb1 H0
        refine hK.out _ _ (fun h => absurd h (by decide)) ?_
        clear hK K
        try simp only [Act.put, List.getElem_toArray, List.getElem_cons_succ, List.getElem_cons_zero, List.setIfInBounds_toArray, List.set_cons_zero, List.set_cons_succ]
        refine AnyC.one (i := 6) (by kernel_rfl) rfl (fun K hK => ?_)
        go_simp
        refine hK.out _ _ (fun h => absurd h (by decide)) ?_
        clear hK K
        try simp only [Act.put, List.getElem_toArray, List.getElem_cons_succ, List.getElem_cons_zero, List.setIfInBounds_toArray, List.set_cons_zero, List.set_cons_succ]
        refine AnyC.take2 (i := 7) (v := .agg (upI p x).arr) rfl (by kernel_rfl) (by kernel_rfl) (by kernel_rfl) (by decide) (by kernel_rfl) (fun _ _ _ h => h) (Or.inl ⟨by rfl, fun W hW => by clear hW; go_simp⟩) ?_
        try simp only [Act.put, List.getElem_toArray, List.getElem_cons_succ, List.getElem_cons_zero, List.setIfInBounds_toArray, List.set_cons_zero, List.set_cons_succ]
        refine AnyC.take2 (i := 8) (v := .int .i64 UC) rfl (by kernel_rfl) (by kernel_rfl) (by kernel_rfl) (by decide) (by kernel_rfl) (fun _ _ _ h => h) (Or.inl ⟨by rfl, fun W hW => by clear hW; go_simp⟩) ?_
        try simp only [Act.put, List.getElem_toArray, List.getElem_cons_succ, List.getElem_cons_zero, List.setIfInBounds_toArray, List.set_cons_zero, List.set_cons_succ]
        refine AnyC.take2 (i := 9) (v := .bool B) rfl (by kernel_rfl) (by kernel_rfl) (by kernel_rfl) (by decide) (by kernel_rfl) (fun _ _ _ h => h) (Or.inl ⟨by rfl, fun W hW => by clear hW; go_simp⟩) ?_
        try simp only [Act.put, List.getElem_toArray, List.getElem_cons_succ, List.getElem_cons_zero, List.setIfInBounds_toArray, List.set_cons_zero, List.set_cons_succ]
        refine AnyC.one (i := 10) (by kernel_rfl) rfl (fun K hK => ?_)
        rw [if_pos (by rfl)]
        refine wp_store_itO HS1.out 0 (upI p x) rfl (.tmp 7) (.tmp 23) rfl rfl rfl ?_
        intro V2 hs2
        have HS2 := Lib.hid hs2
        clear hs2
        refine hK.out _ _ (fun h => absurd h (by decide)) ?_
        clear hK K
        try simp only [Act.put, List.getElem_toArray, List.getElem_cons_succ, List.getElem_cons_zero, List.setIfInBounds_toArray, List.set_cons_zero, List.set_cons_succ]
        refine AnyC.one (i := 11) (by kernel_rfl) rfl (fun K hK => ?_)
        go_simp
        refine hK.out _ _ (fun h => absurd h (by decide)) ?_
        clear hK K
        try simp only [Act.put, List.getElem_toArray, List.getElem_cons_succ, List.getElem_cons_zero, List.setIfInBounds_toArray, List.set_cons_zero, List.set_cons_succ]
        refine AnyC.done (by kernel_rfl) ?_ _
        go_wp2
        have h3 := HS2.out
        go_roundg (gk - 1)
        case measure => have := NXT.out.2.2; omega
        case rel =>
          refine ⟨acc ++ [x], M2, upI p x, m - 1, B, rfl, hr2, h3, fun hB => ?_, fun hB => ?_⟩
          · obtain ⟨n1, n2, _⟩ := NXT.out
            rw [if_pos hB] at n1
            exact ⟨n1, n2 hB⟩
          · obtain ⟨n1, _, _⟩ := NXT.out
            rw [if_neg (by rw [hB]; simp), List.append_nil] at n1
            exact n1
    · obtain rfl : k = n := by omega
      have g1 : ((k : Int) < (k : Int)) = False := eq_false (by omega)
      have e1 := Lib.hid (show ks.take k = ks from List.take_of_length_le (by rw [hl.out]; omega))
      go_wp2
      go_ret
      exact ⟨_, M, rfl, by rw [← e1.out]; exact hr, hst⟩
end
end Go.Proofs.Ytnogmfpaipjdaaa
