/- The program's caches and the document's, beside each other. No statement is proved here. -/
import Derived.Test.YtnogmfpaipjdaaaRAllV
import Derived.Test.YtnogmfpaipjdaaaRMov
import Derived.Test.YtnogmfpaipjdaaaPRightWalk
namespace Go.Proofs.Ytnogmfpaipjdaaa
open Go.RowKit
open P (Pl right hasI vals)
set_option maxRecDepth 20000
set_option linter.unusedVariables false
set_option linter.unusedSimpArgs false

/-- The program's caches hold l; the document's, in block r, l'. -/
def BW (w W : World) (g b r : Nat) (p : Pl) (l l' : List Cd) (L : Blks) : Prop := ∃ v M, RL v l' M ∧ MC w W g b p l (M ++ ((r, C 40 (pcar p v)) :: L))
section
variable {ops : Array Oper} {rest : List Oper} {o : Oper} {a : Act} {K : Act → World → Prop} {Q : Exit → Act → World → Prop}
variable {w W W' : World} {g b r : Nat} {p : Pl} {l l' : List Cd} {L M : Blks}
theorem BW.mc (h : BW w W g b r p l l' L) : ∃ N, MC w W g b p l (N ++ L) ∧ ∀ W' l2, MC w W' g b p l2 (N ++ L) → BW w W' g b r p l2 l' L := by
  obtain ⟨v, M, h1, h2⟩ := h
  exact ⟨M ++ [(r, C 40 (pcar p v))], by simpa using h2, fun W' l2 h3 => ⟨v, M, h1, by simpa using h3⟩⟩
theorem BW.rc (h : BW w W g b r p l l' L) : ∃ Y, RC w W r p l' (Y ++ L) ∧ ∀ W' l2, RC w W' r p l2 (Y ++ L) → BW w W' g b r p l l2 L := by
  obtain ⟨v, M, h1, h2⟩ := h
  obtain ⟨Y, _, _, hs, up⟩ := h2.lift
  have mv : ∀ (M : Blks) (x : Nat × Obj), (Y ++ (M ++ (x :: L))).Perm (M ++ (x :: (Y ++ L))) := fun M x =>
    (List.perm_append_comm_assoc Y M (x :: L)).trans (List.perm_middle.append_left M)
  refine ⟨Y, ⟨v, M, h1, hs.perm (mv M _)⟩, fun W' l2 h3 => ?_⟩
  obtain ⟨v', M', h4, h5⟩ := h3
  exact ⟨v', M', h4, up _ _ (h5.perm (mv M' _).symm)⟩
theorem BW.lift (h : BW w W g b r p l l' L) : ∃ Y : Blks, St w W (Y ++ L) ∧ ∀ W' M, St w W' (Y ++ M) → BW w W' g b r p l l' M := by
  obtain ⟨v, M, h1, h2⟩ := h
  obtain ⟨Y, _, _, hs, up⟩ := h2.lift
  exact ⟨Y ++ (M ++ [(r, C 40 (pcar p v))]), by simpa using hs, fun W' N h3 => ⟨v, M, h1, up _ _ (by simpa using h3)⟩⟩
theorem BW.st (h : BW w W g b r p l l' L) : St w W L := by
  obtain ⟨Y, h1, _⟩ := h.lift
  exact h1.sub (List.sublist_append_right _ _)
theorem BW.bel (h : BW w W g b r p l l' L) : Below w.heap.size w W := h.st.bel
theorem BW.drewN (h : BW w W g b r p l l' L) (j : Nat) : BW w (W.drewN j) g b r p l l' L := by
  obtain ⟨Y, hs, up⟩ := h.lift
  exact up _ _ (hs.drewN j)
theorem BW.drew (h : BW w W g b r p l l' L) : BW w W.drew g b r p l l' L := h.drewN 1
theorem BW.call (h : BW w W g b r p l l' L) (hb : Below W.heap.size W W') : BW w W' g b r p l l' L := by
  obtain ⟨Y, hs, up⟩ := h.lift
  exact up _ _ (hs.call hb)
theorem BW.sub (h : BW w W g b r p l l' L) (hs : M.Sublist L) : BW w W g b r p l l' M := by
  obtain ⟨Y, hs', up⟩ := h.lift
  exact up _ _ (hs'.sub (hs.append_left Y))
theorem BW.perm (h : BW w W g b r p l l' L) (hp : L.Perm M) : BW w W g b r p l l' M := by
  obtain ⟨Y, hs', up⟩ := h.lift
  exact up _ _ (hs'.perm (hp.append_left Y))
theorem BW.tail {x : Nat × Obj} (h : BW w W g b r p l l' (x :: L)) : BW w W g b r p l l' L := h.sub (List.sublist_cons_self x L)
theorem BW.at2 (h : BW w W g b r p l l' L) (i : Nat) {q : Nat} {t : TypeId} {arr : Array Value} (hi : L[i]? = some (q, C t arr)) : At W q t arr := h.st.get i hi
theorem BW.front {x : Nat × Obj} {Y : Blks} (up : ∀ W' M, St w W' (Y ++ M) → BW w W' g b r p l l' M) (h : St w W' (x :: (Y ++ L))) : BW w W' g b r p l l' (x :: L) := up _ _ (h.perm List.perm_middle.symm)
theorem BW.row (h : BW w W g b r p l l' L) : ∃ A c, W.cell? ⟨r, 46, none⟩ = some (.slice A l'.length c) ∧ ERow W W.heap.size A l'.length c l' := by
  obtain ⟨Y, h1, _⟩ := h.rc
  exact h1.row
theorem BW.join {W' : World} (h : BW w W g b r p l l' L) (h2 : St W W' M) : BW w W' g b r p l l' (M ++ L) := by
  obtain ⟨Y, hs, up⟩ := h.lift
  exact up _ _ ((hs.join h2).perm (List.perm_append_comm_assoc M Y L))
theorem wpList_alloc_cdB (h : BW w W g b r p l l' L) (ho : o.op = .alloc 59) (hw : Region.wanted o (yielded ops a.tmps) = true)
    (k : ∀ W', BW w W' g b r p l l' ((W.heap.size, C 59 zcd.arr) :: L) → wpList Try.prog ops Q rest (a.put o.dst (.pointer (some ⟨W.heap.size, 0, none⟩))) W') : wpList Try.prog ops Q (o :: rest) a W := by
  obtain ⟨Y, hs, up⟩ := h.lift
  exact wpList_alloc_cd hs ho hw fun W' h' _ => k W' (BW.front up h')
theorem wpList_alloc_itB (h : BW w W g b r p l l' L) (ho : o.op = .alloc 42) (hw : Region.wanted o (yielded ops a.tmps) = true)
    (k : ∀ W', BW w W' g b r p l l' ((W.heap.size, C 42 zit.arr) :: L) → wpList Try.prog ops Q rest (a.put o.dst (.pointer (some ⟨W.heap.size, 0, none⟩))) W') : wpList Try.prog ops Q (o :: rest) a W := by
  obtain ⟨Y, hs, up⟩ := h.lift
  exact wpList_alloc_it hs ho hw fun W' h' _ => k W' (BW.front up h')
/-- The i-th block beside the caches is stored into. -/
theorem wpList_store_cdB (h : BW w W g b r p l l' L) (i : Nat) {q : Nat} {d : Cd} (e : Cd) (hi : L[i]? = some (q, C 59 d.arr)) (x y : Operand) (ho : o.op = .store 59 x y) (hw : Region.wanted o (yielded ops a.tmps) = true)
    (hx : a.eval x = .pointer (some ⟨q, 0, none⟩)) (hy : a.eval y = .agg e.arr)
    (k : ∀ W', BW w W' g b r p l l' (L.set i (q, C 59 e.arr)) → wpList Try.prog ops Q rest (a.put o.dst undef) W') : wpList Try.prog ops Q (o :: rest) a W := by
  obtain ⟨Y, hs, up⟩ := h.lift
  refine wpList_store_cd hs (Y.length + i) e (by rw [List.getElem?_append_right (by omega)]; simpa using hi) x y ho hw hx hy fun W' h' _ => k W' (up _ _ ?_)
  rw [List.set_append_right _ _ (by omega)] at h'
  simpa using h'
theorem wpList_store_itB (h : BW w W g b r p l l' L) (i : Nat) {q : Nat} {d : It} (e : It) (hi : L[i]? = some (q, C 42 d.arr)) (x y : Operand) (ho : o.op = .store 42 x y) (hw : Region.wanted o (yielded ops a.tmps) = true)
    (hx : a.eval x = .pointer (some ⟨q, 0, none⟩)) (hy : a.eval y = .agg e.arr)
    (k : ∀ W', BW w W' g b r p l l' (L.set i (q, C 42 e.arr)) → wpList Try.prog ops Q rest (a.put o.dst undef) W') : wpList Try.prog ops Q (o :: rest) a W := by
  obtain ⟨Y, hs, up⟩ := h.lift
  refine wpList_store_it hs (Y.length + i) e (by rw [List.getElem?_append_right (by omega)]; simpa using hi) x y ho hw hx hy fun W' h' _ => k W' (up _ _ ?_)
  rw [List.set_append_right _ _ (by omega)] at h'
  simpa using h'
theorem wpList_alloc_clB (h : BW w W g b r p l l' L) (ho : o.op = .alloc 47) (hw : Region.wanted o (yielded ops a.tmps) = true)
    (k : ∀ W', BW w W' g b r p l l' ((W.heap.size, C 47 zclA) :: L) → wpList Try.prog ops Q rest (a.put o.dst (.pointer (some ⟨W.heap.size, 0, none⟩))) W') : wpList Try.prog ops Q (o :: rest) a W := by
  obtain ⟨Y, hs, up⟩ := h.lift
  exact wpList_alloc_cl hs ho hw fun W' h' _ => k W' (BW.front up h')
theorem wpList_store_clB (h : BW w W g b r p l l' L) (i : Nat) {q : Nat} (e : Cl) (hi : L[i]? = some (q, C 47 zclA)) (x y : Operand) (ho : o.op = .store 47 x y) (hw : Region.wanted o (yielded ops a.tmps) = true)
    (hx : a.eval x = .pointer (some ⟨q, 0, none⟩)) (hy : a.eval y = .agg e.arr)
    (k : ∀ W', BW w W' g b r p l l' (L.set i (q, C 47 e.arr)) → wpList Try.prog ops Q rest (a.put o.dst undef) W') : wpList Try.prog ops Q (o :: rest) a W := by
  obtain ⟨Y, hs, up⟩ := h.lift
  refine wpList_store_cl hs (Y.length + i) e (by rw [List.getElem?_append_right (by omega)]; simpa using hi) x y ho hw hx hy fun W' h' _ => k W' (up _ _ ?_)
  rw [List.set_append_right _ _ (by omega)] at h'
  simpa using h'
theorem wpList_box_bw (h : MC w W g b p l L) (y : Operand) (ho : o.op = .box 40 y) (hw : Region.wanted o (yielded ops a.tmps) = true) (hx : a.eval y = .agg (pcar p (.slice none 0 0)))
    (k : ∀ W' r, BW w W' g b r p l [] L → wpList Try.prog ops Q rest (a.put o.dst (.pointer (some ⟨r, 0, none⟩))) W') : wpList Try.prog ops Q (o :: rest) a W := by
  obtain ⟨Y, _, _, hs, up⟩ := h.lift
  exact wpList_box_st hs 40 y ho hw (pcar p (.slice none 0 0)) (by rw [hx]; rfl) fun W' h' _ _ => k W' _ ⟨_, [], RL.nil_, up _ _ (h'.front.perm List.perm_middle.symm)⟩
theorem wp_alloc_itB (h : BW w W g b r p l l' L) (ho : o.op = .alloc 42)
    (k : ∀ W' q, BW w W' g b r p l l' ((q, C 42 zit.arr) :: L) → K (a.put o.dst (.pointer (some ⟨q, 0, none⟩))) W') : o.wp Try.prog a W K Q := by
  obtain ⟨Y, hs, up⟩ := h.lift
  exact wp_alloc_itO hs ho fun W' q h' => k W' q (BW.front up h')
theorem wp_store_itB (h : BW w W g b r p l l' L) (i : Nat) {q : Nat} {d : It} (c : It) (hi : L[i]? = some (q, C 42 d.arr)) (x y : Operand) (ho : o.op = .store 42 x y)
    (hx : a.eval x = .pointer (some ⟨q, 0, none⟩)) (hy : a.eval y = .agg c.arr)
    (k : ∀ W', BW w W' g b r p l l' (L.set i (q, C 42 c.arr)) → K (a.put o.dst undef) W') : o.wp Try.prog a W K Q := by
  obtain ⟨Y, hs, up⟩ := h.lift
  refine wp_store_itO hs (Y.length + i) c (by rw [List.getElem?_append_right (by omega)]; simpa using hi) x y ho hx hy fun W' h' => k W' (up _ _ ?_)
  rw [List.set_append_right _ _ (by omega)] at h'
  simpa using h'
theorem wp_build0B (h : BW w W g b r p l l' L) (ho : o.op = .buildSlice 45 0 #[])
    (k : ∀ W' v N, RL v ([] : List It) N → BW w W' g b r p l l' (N ++ L) → K (a.put o.dst v) W') : o.wp Try.prog a W K Q := by
  obtain ⟨Y, hs, up⟩ := h.lift
  have hrun := run_build0 (α := It) W
  unfold Oper.wp execOp
  replace hrun : (Instr.buildSlice 45 0 #[]).run Try.prog W = _ := hrun
  simp only [ho, Sem.run_bind, List.map_toArray, List.map_nil, hrun, Result.andThen_ok]
  refine k _ _ [(W.heap.size, C 42 #[])] (.inr ⟨W.heap.size, 0, #[], rfl, rfl, Nat.le_refl _, by unfold maxLen; omega, by simp, by simp [ecells]⟩) (BW.front up ?_)
  exact (hs.push 42 _).front
theorem wp_appendB {v : Value} {xs ys : List It} {N : Blks} {B k c : Nat} {A : Option Addr} (h1 : RL v xs N) (h : BW w W g b r p l l' (N ++ L)) (hr : ERow W B A k c ys) (s x : Operand) (ho : o.op = .call { callee := .builtin .append, args := #[s, x], argTypes := #[45, 45] })
    (hsv : a.eval s = v) (hx : a.eval x = .slice A k c) (hl : xs.length + k ≤ 100000)
    (kk : ∀ v' W' N', RL v' (xs ++ ys) N' → BW w W' g b r p l l' (N' ++ L) → K (a.put o.dst v') W') : o.wp Try.prog a W K Q := by
  obtain ⟨Y, hs, up⟩ := h.lift
  exact wp_append_rl h1 (hs.perm (List.perm_append_comm_assoc Y N L)) hr s x ho hsv hx hl fun v' W' N' h2 h3 => kk v' W' N' h2 (up _ _ (h3.perm (List.perm_append_comm_assoc N' Y L)))
theorem b9 (h : BW w W g b r p l l' L) (I : Inv p l) (k : Int) (x : It) (bs : List Nat) (hl : bs.length = 32) (hn : l.length ≤ 1000) :
    Calls Try.prog 9 #[.pointer (some ⟨g, 0, none⟩), .int .i64 k, .agg x.arr, .agg (lnA bs)] W fun e W' => e = .returned (.int .i64 (putK p l k x)) ∧ BW w W' g b r p (putL p l k x ⟨x, k, bs, false, hl⟩) l' L := by
  obtain ⟨N, h1, up⟩ := h.mc
  exact (put_any h1 I k x bs hl hn).mono fun e W' ⟨he, h2⟩ => ⟨he, up _ _ h2⟩
theorem b10 (h : BW w W g b r p l l' L) (I : Inv p l') (k : Int) (x : It) (bs : List Nat) (hl : bs.length = 32) (hn : l'.length ≤ 1000) :
    Calls Try.prog 10 #[.pointer (some ⟨r, 0, none⟩), .int .i64 k, .agg x.arr, .agg (lnA bs)] W fun e W' => e = .returned (.int .i64 (putK p l' k x)) ∧ BW w W' g b r p l (putL p l' k x ⟨x, k, bs, false, hl⟩) L := by
  obtain ⟨N, h1, up⟩ := h.rc
  exact (rput_any h1 I k x bs hl hn).mono fun e W' ⟨he, h2⟩ => ⟨he, up _ _ h2⟩
theorem b11 (h : BW w W g b r p l l' L) (I : Inv p l) (x : It) (bs : List Nat) (hl : bs.length = 32) (hn : l.length ≤ 1000) :
    Calls Try.prog 11 #[.pointer (some ⟨g, 0, none⟩), .agg x.arr, .agg (lnA bs)] W fun e W' => e = .returned (.int .i64 (drpK l x)) ∧ BW w W' g b r p (updL l x bs hl) l' L := by
  obtain ⟨N, h1, up⟩ := h.mc
  exact (upd_any h1 I x bs hl hn).mono fun e W' ⟨he, h2⟩ => ⟨he, up _ _ h2⟩
theorem b12 (h : BW w W g b r p l l' L) (I : Inv p l') (x : It) (bs : List Nat) (hl : bs.length = 32) (hn : l'.length ≤ 1000) :
    Calls Try.prog 12 #[.pointer (some ⟨r, 0, none⟩), .agg x.arr, .agg (lnA bs)] W fun e W' => e = .returned (.int .i64 (drpK l' x)) ∧ BW w W' g b r p l (updL l' x bs hl) L := by
  obtain ⟨N, h1, up⟩ := h.rc
  exact (rupd_any h1 I x bs hl hn).mono fun e W' ⟨he, h2⟩ => ⟨he, up _ _ h2⟩
theorem b13 (h : BW w W g b r p l l' L) (I : Inv p l) (x : It) (k : Int) (hn : l.length ≤ 1000) :
    Calls Try.prog 13 #[.pointer (some ⟨g, 0, none⟩), .agg x.arr, .int .i64 k] W fun e W' => e = .returned (.int .i64 (movK p l x k)) ∧ BW w W' g b r p (movL p l x k) l' L := by
  obtain ⟨N, h1, up⟩ := h.mc
  exact (mov_any h1 I x k hn).mono fun e W' ⟨he, h2⟩ => ⟨he, up _ _ h2⟩
theorem b14 (h : BW w W g b r p l l' L) (I : Inv p l') (x : It) (k : Int) (hn : l'.length ≤ 1000) :
    Calls Try.prog 14 #[.pointer (some ⟨r, 0, none⟩), .agg x.arr, .int .i64 k] W fun e W' => e = .returned (.int .i64 (movK p l' x k)) ∧ BW w W' g b r p l (movL p l' x k) L := by
  obtain ⟨N, h1, up⟩ := h.rc
  exact (rmov_any h1 I x k hn).mono fun e W' ⟨he, h2⟩ => ⟨he, up _ _ h2⟩
theorem b15 (h : BW w W g b r p l l' L) (I : Inv p l) (x : It) :
    Calls Try.prog 15 #[.pointer (some ⟨g, 0, none⟩), .agg x.arr] W fun e W' => e = .returned (.int .i64 (drpK l x)) ∧ BW w W' g b r p (remL l x) l' L := by
  obtain ⟨N, h1, up⟩ := h.mc
  exact (drop_any h1 I x).mono fun e W' ⟨he, h2⟩ => ⟨he, up _ _ h2⟩
theorem b16 (h : BW w W g b r p l l' L) (I : Inv p l') (x : It) (hn : l'.length ≤ 1000) :
    Calls Try.prog 16 #[.pointer (some ⟨r, 0, none⟩), .agg x.arr] W fun e W' => e = .returned (.int .i64 (drpK l' x)) ∧ BW w W' g b r p l (remL l' x) L := by
  obtain ⟨N, h1, up⟩ := h.rc
  exact (rdrop_any h1 I x hn).mono fun e W' ⟨he, h2⟩ => ⟨he, up _ _ h2⟩
theorem b17 (h : BW w W g b r p l l' L) (I : Inv p l) (hn : l.length ≤ 1000) {ys : List Cd} (hA : IsAll l ys) (k : Int) (A : Option Addr) (m c : Nat) (ks : List It) (hk : ERow W W.heap.size A m c ks) (hm : m ≤ 1000) :
    Calls Try.prog 17 #[.pointer (some ⟨g, 0, none⟩), .int .i64 k, .slice A m c] W fun e W' => e = .returned (.tuple #[.agg (vicI p l ys k ks).arr, .bool (vicC p l k ks).isSome]) ∧ BW w W' g b r p l l' L := by
  obtain ⟨N, h1, up⟩ := h.mc
  exact (victim_any h1 I hn hA k A m c ks hk hm).mono fun e W' ⟨he, h2⟩ => ⟨he, h.call h2⟩
theorem b18 (h : BW w W g b r p l l' L) (I : Inv p l') {ys : List Cd} (hA : IsAll l' ys) (k : Int) (A : Option Addr) (m c : Nat) (ks : List It) (hk : ERow W W.heap.size A m c ks) :
    Calls Try.prog 18 #[.pointer (some ⟨r, 0, none⟩), .int .i64 k, .slice A m c] W fun e W' => e = .returned ((.tuple #[.agg (vicI p l' ys k ks).arr, .bool (vicC p l' k ks).isSome])) ∧ BW w W' g b r p l l' L := by
  obtain ⟨N, h1, up⟩ := h.rc
  exact (rvic_any h1 I hA k A m c ks hk).mono fun e W' ⟨he, h2⟩ => ⟨he, h.call h2⟩
theorem b19 (h : BW w W g b r p l l' L) (I : Inv p l) (x : It) :
    Calls Try.prog 19 #[.pointer (some ⟨g, 0, none⟩), .agg x.arr] W fun e W' => e = .returned (.tuple #[.agg (getC l x).arr, .bool (findC l x).isSome]) ∧ BW w W' g b r p l l' L := by
  obtain ⟨N, h1, up⟩ := h.mc
  exact (get_any h1 I x).mono fun e W' ⟨he, h2⟩ => ⟨he, h.call h2⟩
theorem b20 (h : BW w W g b r p l l' L) (x : It) :
    Calls Try.prog 20 #[.pointer (some ⟨r, 0, none⟩), .agg x.arr] W fun e W' => e = .returned ((.int .i64 (fI l' x))) ∧ BW w W' g b r p l l' L := by
  obtain ⟨N, h1, up⟩ := h.rc
  exact (rfind_any h1 x).mono fun e W' ⟨he, h2⟩ => ⟨he, h.call h2⟩
theorem b21 (h : BW w W g b r p l l' L) (hp : right p = true) (k : Int) :
    Calls Try.prog 21 #[.pointer (some ⟨g, 0, none⟩), .int .i64 k] W fun e W' => e = .returned (.int .i64 (roomV p l k)) ∧ BW w W' g b r p l l' L := by
  obtain ⟨N, h1, up⟩ := h.mc
  exact (room_any h1 hp k).mono fun e W' ⟨he, h2⟩ => ⟨he, (by obtain ⟨j, rfl⟩ := h2; exact h.drewN j)⟩
theorem b22 (h : BW w W g b r p l l' L) (hp : right p = true) (k : Int) :
    Calls Try.prog 22 #[.pointer (some ⟨r, 0, none⟩), .int .i64 k] W fun e W' => e = .returned ((.int .i64 (roomV p l' k))) ∧ BW w W' g b r p l l' L := by
  obtain ⟨N, h1, up⟩ := h.rc
  exact (rroom_any h1 hp k).mono fun e W' ⟨he, h2⟩ => ⟨he, (by obtain ⟨j, rfl⟩ := h2; exact h.drewN j)⟩
theorem b24 (h : BW w W g b r p l l' L) (I : Inv p l) (hn : l.length ≤ 1000) : Calls Try.prog 24 #[.pointer (some ⟨g, 0, none⟩)] W fun e W' => ∃ v M ys, e = .returned v ∧ RL v ys M ∧ IsAll l ys ∧ BW w W' g b r p l l' (M ++ L) := by
  obtain ⟨N, h1, _⟩ := h.mc
  exact (all_any h1 I hn).mono fun e W' ⟨v, M, ys, h2, h3, h4, h5⟩ => ⟨v, M, ys, h2, h3, h4, h.join h5⟩
theorem b25 (h : BW w W g b r p l l' L) (I : Inv p l') : Calls Try.prog 25 #[.pointer (some ⟨r, 0, none⟩)] W fun e W' => ∃ v M ys, e = .returned v ∧ RL v ys M ∧ IsAll l' ys ∧ BW w W' g b r p l l' (M ++ L) := by
  obtain ⟨N, h1, _⟩ := h.rc
  exact (rall_any h1 I).mono fun e W' ⟨v, M, ys, h2, h3, h4, h5⟩ => ⟨v, M, ys, h2, h3, h4, h.join h5⟩
end
end Go.Proofs.Ytnogmfpaipjdaaa
