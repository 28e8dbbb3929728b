/- The law of the tree's items. No statement is proved here. -/
import Derived.Test.YtcbpnmcfiohndaaSpeaks6
import Derived.Test.YtcbpnmcfiohndaaParent
namespace Go.Proofs.Ytcbpnmcfiohndaa
open Go.RowKit
set_option linter.unusedVariables false
set_option linter.unusedSimpArgs false

abbrev itC (c d : Int) : Array Value := #[.int .i64 c, .int .i64 d]
/-- A plan and two items in three blocks. -/
structure TSt (w : World) (q : Pl) (xl xi yl yi : Int) (W : World) : Prop where
  st : PSt w w.heap.size q W
  bx : W.heap[w.heap.size + 1]? = some (.cells #[.int .i64 xl, .int .i64 xi] 39 (0, 0))
  by_ : W.heap[w.heap.size + 2]? = some (.cells #[.int .i64 yl, .int .i64 yi] 39 (0, 0))
section
variable {w W W' : World} {q q' : Pl} {xl xi yl yi : Int}
theorem blk_lt {g : Nat} {o : Obj} (h : W.heap[g]? = some o) : g < W.heap.size := by
  rcases Nat.lt_or_ge g W.heap.size with hlt | hge
  · exact hlt
  · rw [Array.getElem?_eq_none hge] at h; cases h
theorem TSt.call (h : TSt w q xl xi yl yi W) (hb : Below W.heap.size W W') : TSt w q xl xi yl yi W' := ⟨h.st.call hb, (hb.block _ (blk_lt h.bx)).trans h.bx, (hb.block _ (blk_lt h.by_)).trans h.by_⟩
theorem TSt.alloc (h : TSt w q xl xi yl yi W) (o : Obj) : TSt w q xl xi yl yi (W.alloc o) := ⟨⟨h.st.blk.alloc _, h.st.bel.alloc h.st.bel.size _⟩, (Below.heap_alloc _ _ _ (blk_lt h.bx)).trans h.bx, (Below.heap_alloc _ _ _ (blk_lt h.by_)).trans h.by_⟩
theorem TSt.x (h : TSt w q xl xi yl yi W) : W.cell? ⟨w.heap.size + 1, 0, none⟩ = some (.int .i64 xl) ∧ W.cell? ⟨w.heap.size + 1, 1, none⟩ = some (.int .i64 xi) := item_load h.bx
theorem TSt.y (h : TSt w q xl xi yl yi W) : W.cell? ⟨w.heap.size + 2, 0, none⟩ = some (.int .i64 yl) ∧ W.cell? ⟨w.heap.size + 2, 1, none⟩ = some (.int .i64 yi) := item_load h.by_
theorem TSt.new (w : World) (p : Pl) (xl xi yl yi : Int) : TSt w p xl xi yl yi (((w.alloc (.cells p.arr 28)).alloc (.cells #[.int .i64 xl, .int .i64 xi] 39)).alloc (.cells #[.int .i64 yl, .int .i64 yi] 39)) := by
  have h := ISt.new w p xl xi
  have e : ((w.alloc (.cells p.arr 28)).alloc (.cells #[.int .i64 xl, .int .i64 xi] 39)).heap.size = w.heap.size + 2 := by simp
  have h2 := heap_alloc_new ((w.alloc (.cells p.arr 28)).alloc (.cells #[.int .i64 xl, .int .i64 xi] 39)) (.cells #[.int .i64 yl, .int .i64 yi] 39)
  rw [e] at h2
  exact ⟨⟨h.st.blk.alloc _, h.st.bel.alloc (by rw [e]; omega) _⟩, (Below.heap_alloc _ _ _ (by rw [e]; omega)).trans h.it, h2⟩
theorem TSt.setFar (h : TSt w q xl xi yl yi W) {g : Nat} (hg : w.heap.size + 2 < g) (cs : Array Value) : TSt w q xl xi yl yi (W.setRow g cs) :=
  ⟨⟨(heap_setRow_far W _ _ _ (by omega)).trans h.st.blk, h.st.bel.trans ⟨rfl, rfl, rfl, by simp [World.setRow], fun k hk => heap_setRow_far W _ k _ (by omega)⟩⟩, (heap_setRow_far W _ _ _ (by omega)).trans h.bx, (heap_setRow_far W _ _ _ (by omega)).trans h.by_⟩
/-- The plan is stored anew. -/
theorem wpList_planT {ops : Array Oper} {rest : List Oper} {o : Oper} {a : Act} {Q : Exit → Act → World → Prop} (h : TSt w q xl xi yl yi W) (x y : Operand) (ho : o.op = .store 28 x y) (hx : a.eval x = .pointer (some ⟨w.heap.size, 0, none⟩)) (hw : Region.wanted o (yielded ops a.tmps) = true) (hy : a.eval y = .agg q'.arr)
    (k : ∀ W', TSt w q' xl xi yl yi W' → wpList Try.prog ops Q rest (a.put o.dst undef) W') : wpList Try.prog ops Q (o :: rest) a W := by
  unfold wpList
  rw [if_pos hw]
  refine .inl (wp_store_row 28 x y ho w.heap.size q'.arr hx hy 28 q.arr h.st.blk (by rw [q'.arr_size]; exact sz28) (by rw [q'.arr_size, q.arr_size]) q'.arr_all (k _ ?_))
  exact ⟨⟨h.st.blk.putAll, h.st.bel.trans ⟨rfl, rfl, rfl, by simp [World.setRow], fun k hk => heap_setRow_far W _ k _ (by omega)⟩⟩, (heap_setRow_far W _ _ _ (by omega)).trans h.bx, (heap_setRow_far W _ _ _ (by omega)).trans h.by_⟩
/-- An item of the call's own is stored. -/
theorem wpList_ownT {ops : Array Oper} {rest : List Oper} {o : Oper} {a : Act} {Q : Exit → Act → World → Prop} {g : Nat} {c0 d0 c d : Int} (h : TSt w q xl xi yl yi W) (hz : W.heap[g]? = some (.cells #[.int .i64 c0, .int .i64 d0] 39 (0, 0))) (hg : w.heap.size + 2 < g) (x y : Operand) (ho : o.op = .store 39 x y) (hx : a.eval x = .pointer (some ⟨g, 0, none⟩)) (hw : Region.wanted o (yielded ops a.tmps) = true) (hy : a.eval y = .agg #[.int .i64 c, .int .i64 d])
    (k : ∀ W', TSt w q xl xi yl yi W' → W'.heap[g]? = some (.cells #[.int .i64 c, .int .i64 d] 39 (0, 0)) → wpList Try.prog ops Q rest (a.put o.dst undef) W') : wpList Try.prog ops Q (o :: rest) a W := by
  unfold wpList
  rw [if_pos hw]
  refine .inl (wp_store_row 39 x y ho g #[.int .i64 c, .int .i64 d] hx hy 39 #[.int .i64 c0, .int .i64 d0] hz sz39 rfl (by simp [Value.oneCell']) (k _ (h.setFar hg _) ?_))
  simp [World.setRow, Array.getElem?_modify, hz]
/-- The first item is stored anew. -/
theorem wpList_itemT {ops : Array Oper} {rest : List Oper} {o : Oper} {a : Act} {Q : Exit → Act → World → Prop} {c d : Int} (h : TSt w q xl xi yl yi W) (x y : Operand) (ho : o.op = .store 39 x y) (hx : a.eval x = .pointer (some ⟨w.heap.size + 1, 0, none⟩)) (hw : Region.wanted o (yielded ops a.tmps) = true) (hy : a.eval y = .agg #[.int .i64 c, .int .i64 d])
    (k : ∀ W', TSt w q c d yl yi W' → wpList Try.prog ops Q rest (a.put o.dst undef) W') : wpList Try.prog ops Q (o :: rest) a W := by
  unfold wpList
  rw [if_pos hw]
  refine .inl (wp_store_row 39 x y ho (w.heap.size + 1) #[.int .i64 c, .int .i64 d] hx hy 39 #[.int .i64 xl, .int .i64 xi] h.bx sz39 rfl (by simp [Value.oneCell']) (k _ ?_))
  have hb := h.bx
  exact ⟨⟨(heap_setRow_far W _ _ _ (by omega)).trans h.st.blk, h.st.bel.trans ⟨rfl, rfl, rfl, by simp [World.setRow], fun k hk => heap_setRow_far W _ k _ (by omega)⟩⟩, by simp [World.setRow, Array.getElem?_modify, hb], (heap_setRow_far W _ _ _ (by omega)).trans h.by_⟩
end
theorem eq39 (a b c e : Int) (w : World) : (binOp .eql 39 (.agg #[.int .i64 a, .int .i64 b]) (.agg #[.int .i64 c, .int .i64 e])).run Try.prog w = .ok (.bool (a == c && b == e)) w := by
  rw [run_eql_struct, run_equalIn_struct w 9999 39 _ _ (by kernel_rfl) (by kernel_rfl)]
  have hf : (Try.prog.fieldsOf 39).toList.map (fun f => (f.name, f.type, f.offset)) = [("Level", 3, 0), ("Index", 3, 1)] := by kernel_rfl
  generalize (Try.prog.fieldsOf 39).toList = fs at hf
  have hl : fs.length = 2 := by simpa using congrArg List.length hf
  match fs, hl, hf with
  | [f1, f2], _, hf =>
    simp only [List.map_cons, List.map_nil, List.cons.injEq, Prod.mk.injEq, and_true] at hf
    obtain ⟨⟨n1, t1, o1⟩, n2, t2, o2⟩ := hf
    have p1 : ∀ x y : Int, (part 3 #[.int .i64 x, .int .i64 y] 0).run Try.prog w = .ok (.int .i64 x) w := fun x y => by simp [part, isAgg, run_underlying Try.underlying3]
    have p2 : ∀ x y : Int, (part 3 #[.int .i64 x, .int .i64 y] 1).run Try.prog w = .ok (.int .i64 y) w := fun x y => by simp [part, isAgg, run_underlying Try.underlying3]
    have i1 := fun x y => run_equalIn_int (P := Try.prog) w 9998 3 .i64 .i64 x y Try.underlying3
    simp only [Nat.reduceAdd] at i1
    cases h1 : (a == c) <;> cases h2 : (b == e) <;> simp [Op.eqFields, n1, n2, t1, t2, o1, o2, Sem.run_bind, p1, p2, i1, h1, h2]
theorem sw_mono (n a : Nat) {k k' : Nat} (h : k ≤ k') : sw n a k ≤ sw n a k' := by
  induction h with
  | refl => exact Nat.le_refl _
  | step _ ih => rw [sw_succ]; omega
theorem sw_inj (n a : Nat) {k j k' j' : Nat} (h1 : j < wid n a k) (h2 : j' < wid n a k') (e : sw n a k + j = sw n a k' + j') : k = k' ∧ j = j' := by
  rcases Nat.lt_trichotomy k k' with h | h | h
  · have := sw_mono n a (show k + 1 ≤ k' from h)
    rw [sw_succ] at this; omega
  · subst h; exact ⟨rfl, by omega⟩
  · have := sw_mono n a (show k' + 1 ≤ k from h)
    rw [sw_succ] at this; omega
theorem ItI_inj {q : Pl} {xl xi yl yi : Int} (hx : hasI q xl xi = true) (hy : hasI q yl yi = true) (e : ItI q xl xi = ItI q yl yi) : xl = yl ∧ xi = yi := by
  unfold ItI at e
  rw [if_pos hx, if_pos hy] at e
  obtain ⟨-, k, j, rfl, rfl, hk, hj⟩ := hasI_facts hx
  obtain ⟨-, k', j', rfl, rfl, hk', hj'⟩ := hasI_facts hy
  simp only [Int.toNat_natCast] at e
  obtain ⟨e1, e2⟩ := sw_inj _ _ hj hj' (by omega)
  exact ⟨by rw [e1], by rw [e2]⟩
theorem hasI_mk {q : Pl} {k j : Nat} (hr : right q = true) (hk : k < Lv q) (hj : j < wid q.pa.toNat q.ar.toNat k) : hasI q (k : Int) (j : Int) = true := by
  unfold hasI
  rw [hr, decide_eq_true (by omega), Wd_at q k hk, decide_eq_true (by omega)]; rfl
theorem up_step {n a i : Nat} (h3 : 2 ≤ a) (h : i < n) : i / a < up a n := by
  unfold up
  rw [Nat.div_lt_iff_lt_mul (by omega)]
  have := Nat.div_add_mod (n + a - 1) a
  have h2 := Nat.mod_lt (n + a - 1) (show 0 < a by omega)
  have e : (n + a - 1) / a * a = a * ((n + a - 1) / a) := Nat.mul_comm _ _
  omega

theorem wid_succ (n a k : Nat) : wid n a (k + 1) = up a (wid n a k) := rfl
def lvlOf (w wr : World) : Nat := match wr.cell? ⟨w.heap.size + 1, 0, none⟩ with
  | some (.int _ n) => n.toNat
  | _ => 0
theorem lvl_eq {w W : World} {q : Pl} {xl xi yl yi : Int} (h : TSt w q xl xi yl yi W) : lvlOf w W = xl.toNat := by unfold lvlOf; rw [h.x.1]
def TRel (w : World) (q : Pl) (yl yi : Int) (s : Value) (wr : World) : Prop :=
  ∃ k j : Nat, k < Lv q ∧ j < wid q.pa.toNat q.ar.toNat k ∧ s = .bool true ∧ TSt w q (k : Int) (j : Int) yl yi wr
def FRel (w : World) (q : Pl) (xl xi yl yi : Int) (s : Value) (wr : World) : Prop := s = .bool false ∧ TSt w q xl xi yl yi wr
attribute [local irreducible] shaped Ls Lv Wd Al right bounded fitP sw hasI hasL ItI upL upX upC hasU up wid lvlOf
set_option maxHeartbeats 4000000 in
set_option maxRecDepth 20000 in
theorem rtree_out (p q : Pl) (hqp : fitP p = q) (xl xi yl yi : Int) (hx : hasI q xl xi = false) (w : World) : Calls Try.prog 9 #[.agg p.arr, .agg #[.int .i64 xl, .int .i64 xi], .agg #[.int .i64 yl, .int .i64 yi]] w fun e w' => e = .returned (.bool true) ∧ Below w.heap.size w w' := by
  have SP := Lib.hid (fun W => speaks6_true W)
  have FT := Lib.hid (fun W => refFit_any p W)
  have N := Lib.hid (TSt.new w p xl xi yl yi)
  rw [hqp] at FT
  clear hqp
  have IX := Lib.hid (fun W => item_any q xl xi W)
  have IY := Lib.hid (fun W => item_any q yl yi W)
  have LV := Lib.hid (fun W => refLevels_any q W)
  have PX := Lib.hid (fun W => parent_any q xl xi W)
  have L5 := Lv_le q
  have hU : hasU q xl xi = false := by unfold hasU; rw [hx]; rfl
  rw [hx] at IX
  rw [hU] at PX
  generalize ItI q xl xi = A1 at *
  generalize ItI q yl yi = A2 at *
  generalize hasI q yl yi = hy at *
  generalize upL q xl xi = r1 at *
  generalize upX q xl xi = r2 at *
  generalize upC q xl xi = r3 at *
  generalize Lv q = L at *
  have wL : IntKind.i64.wrap ((L : Int) - 1) = (L : Int) - 1 := IntWalk.i64_in _ (by omega)
  clear hx hU
  go_enter Try.func9, Try.ntmps9
  go_wp2_with (first
    | (go_at_call 25; refine (SP.out _).mono ?_; rintro e X0 ⟨rfl, hb⟩; have h1 := N.out.call hb; clear N hb)
    | (refine wpList_load_plan h1.st.blk _ rfl rfl rfl ?_)
    | (go_at_call 24; refine (FT.out _).mono ?_; rintro e X1 ⟨rfl, hb⟩; have h2 := h1.call hb; clear h1 hb)
    | (refine wpList_planT h2 _ _ rfl rfl rfl rfl ?_; clear h2; intro X2 h3; obtain ⟨x0, x1⟩ := h3.x)
    | (refine wpList_load_plan h3.st.blk _ rfl rfl rfl ?_)
    | (go_at_call 31; have _ := h3; refine (IX.out _).mono ?_; rintro e X3 ⟨rfl, hb⟩; have h4 := h3.call hb; clear x0 x1 h3 hb; obtain ⟨y0, y1⟩ := h4.y; obtain ⟨x0, x1⟩ := h4.x)
    | (refine wpList_load_plan h4.st.blk _ rfl rfl rfl ?_)
    | (go_at_call 31; have _ := h4; refine (IY.out _).mono ?_; rintro e X4 ⟨rfl, hb⟩; have h5 := h4.call hb; clear x0 x1 y0 y1 h4 hb; obtain ⟨y0, y1⟩ := h5.y; obtain ⟨x0, x1⟩ := h5.x)
    | (refine wpList_load_plan h5.st.blk _ rfl rfl rfl ?_)
    | (go_at_call 16; refine (LV.out _).mono ?_; rintro e X5 ⟨rfl, hb⟩; have h6 := h5.call hb; clear x0 x1 y0 y1 h5 hb))
  go_loopw [8] (FRel w q xl xi yl yi) (fun _ _ => 0)
  case atStart => exact ⟨rfl, h6⟩
  case round =>
    clear h6
    obtain ⟨rfl, hst⟩ := hrel
    obtain ⟨x0, x1⟩ := hst.x
    go_wp2_with (first  
      | (refine wpList_load_plan hst.st.blk _ rfl rfl rfl ?_)
      | (go_at_call 38; refine (PX.out _).mono ?_; rintro e Z1 ⟨rfl, hb⟩; have hA := (hst.call hb).alloc (.cells #[.int .i64 0, .int .i64 0] 39); have hz := heap_alloc_new Z1 (.cells #[.int .i64 0, .int .i64 0] 39); have hlo := blk_lt (hst.call hb).by_; clear x0 x1 hst hb)
      | (refine wpList_ownT hA hz hlo _ _ rfl rfl rfl rfl ?_; clear hA hz hlo; intro Z2 hB hBb; obtain ⟨x0, x1⟩ := hB.x))
    go_ret
    exact ⟨rfl, hB.st.bel⟩
set_option maxHeartbeats 4000000 in
set_option maxRecDepth 20000 in
theorem rtree_alone (p q : Pl) (hqp : fitP p = q) (hq : right q = true) (k0 j0 : Nat) (yl yi : Int) (hk0 : k0 < Lv q) (hj0 : j0 < wid q.pa.toNat q.ar.toNat k0) (hy : hasI q yl yi = false) (w : World) : Calls Try.prog 9 #[.agg p.arr, .agg #[.int .i64 (k0 : Int), .int .i64 (j0 : Int)], .agg #[.int .i64 yl, .int .i64 yi]] w fun e w' => e = .returned (.bool true) ∧ Below w.heap.size w w' := by
  have SP := Lib.hid (fun W => speaks6_true W)
  have FT := Lib.hid (fun W => refFit_any p W)
  have N := Lib.hid (TSt.new w p (k0 : Int) (j0 : Int) yl yi)
  rw [hqp] at FT
  clear hqp
  have IX := Lib.hid (fun W => item_any q (k0 : Int) (j0 : Int) W)
  have IY := Lib.hid (fun W => item_any q yl yi W)
  have LV := Lib.hid (fun W => refLevels_any q W)
  have L5 := Lv_le q
  have hs := (right_facts hq).2.1
  have sh := sh_of hs
  have c4 := sh.ar
  have a1 := sh.a1
  have a2 := sh.a2
  have TF := Lib.hid (tree_facts sh.n1 sh.n2 sh.a1 sh.a2).2.2
  rw [← sh.lv hs] at TF
  rw [hasI_mk hq hk0 hj0] at IX
  have wL : IntKind.i64.wrap ((Lv q : Int) - 1) = (Lv q : Int) - 1 := IntWalk.i64_in _ (by omega)
  have q1 := fun W => eq39 (k0 : Int) (j0 : Int) yl yi W
  rw [hy] at IY
  generalize ItI q (k0 : Int) (j0 : Int) = A1 at *
  generalize ItI q yl yi = A2 at *
  clear hy
  clear sh hs
  go_enter Try.func9, Try.ntmps9
  go_wp2_with (first
    | (go_at_call 25; refine (SP.out _).mono ?_; rintro e X0 ⟨rfl, hb⟩; have h1 := N.out.call hb; clear N hb)
    | (refine wpList_load_plan h1.st.blk _ rfl rfl rfl ?_)
    | (go_at_call 24; refine (FT.out _).mono ?_; rintro e X1 ⟨rfl, hb⟩; have h2 := h1.call hb; clear h1 hb)
    | (refine wpList_planT h2 _ _ rfl rfl rfl rfl ?_; clear h2; intro X2 h3; obtain ⟨x0, x1⟩ := h3.x)
    | (refine wpList_load_plan h3.st.blk _ rfl rfl rfl ?_)
    | (go_at_call 31; have _ := h3; refine (IX.out _).mono ?_; rintro e X3 ⟨rfl, hb⟩; have h4 := h3.call hb; clear x0 x1 h3 hb; obtain ⟨y0, y1⟩ := h4.y; obtain ⟨x0, x1⟩ := h4.x)
    | (refine wpList_load_plan h4.st.blk _ rfl rfl rfl ?_)
    | (go_at_call 31; have _ := h4; refine (IY.out _).mono ?_; rintro e X4 ⟨rfl, hb⟩; have h5 := h4.call hb; clear x0 x1 y0 y1 h4 hb; obtain ⟨y0, y1⟩ := h5.y; obtain ⟨x0, x1⟩ := h5.x)
    | (refine wpList_load_plan h5.st.blk _ rfl rfl rfl ?_)
    | (go_at_call 16; refine (LV.out _).mono ?_; rintro e X5 ⟨rfl, hb⟩; have h6 := h5.call hb; clear x0 x1 y0 y1 h5 hb))
  clear q1
  go_loopw [8] (TRel w q yl yi) (fun _ wr => Lv q - lvlOf w wr)
  case atStart => exact ⟨k0, j0, hk0, hj0, rfl, h6⟩
  case round =>
    clear h6
    obtain ⟨k, j, hk, hj, rfl, hst⟩ := hrel
    have PX := Lib.hid (fun W => parent_any q (k : Int) (j : Int) W)
    have hI := hasI_mk hq hk hj
    have y2 := (TF.out k hk).2.1
    have j16 : j < 16 := by omega
    have k5 : k < 5 := by omega
    have hst0 := Lib.hid hst
    obtain ⟨x0, x1⟩ := hst.x
    by_cases hlt : k + 1 < Lv q
    · have hU : hasU q (k : Int) (j : Int) = true := by unfold hasU; rw [hI, decide_eq_false (by omega)]; rfl
      have e1 : upL q (k : Int) (j : Int) = (k : Int) + 1 := by unfold upL; rw [if_pos hU]
      have e2 : upX q (k : Int) (j : Int) = ((j / q.ar.toNat : Nat) : Int) := by unfold upX; rw [if_pos hU, c4]; exact Int.ofNat_ediv_ofNat
      have e3 : upC q (k : Int) (j : Int) = ((j % q.ar.toNat : Nat) : Int) := by unfold upC; rw [if_pos hU, c4]; rfl
      rw [e1, e2, e3, hU] at PX
      have hj2 : j / q.ar.toNat < wid q.pa.toNat q.ar.toNat (k + 1) := by rw [wid_succ]; exact up_step a1 hj
      have hI2 := hasI_mk hq hlt hj2
      have IT : Hid (∀ W, Calls Try.prog 31 #[.agg q.arr, .agg #[.int .i64 ((k : Int) + 1), .int .i64 ((j / q.ar.toNat : Nat) : Int)]] W fun e w' => e = .returned (.tuple #[.int .i64 (ItI q ((k + 1 : Nat) : Int) ((j / q.ar.toNat : Nat) : Int)), .bool true]) ∧ Below W.heap.size W w') := fun W => by
        have h := item_any q ((k + 1 : Nat) : Int) ((j / q.ar.toNat : Nat) : Int) W
        rw [hI2] at h
        exact h
      have HJ := Lib.hid hj2
      have dm : q.ar.toNat * (j / q.ar.toNat) + j % q.ar.toNat = j := Nat.div_add_mod j q.ar.toNat
      have jr2 : j % q.ar.toNat < q.ar.toNat := Nat.mod_lt _ (by omega)
      have jq2 : j / q.ar.toNat ≤ j := Nat.div_le_self _ _
      generalize ItI q ((k + 1 : Nat) : Int) ((j / q.ar.toNat : Nat) : Int) = A2 at *
      generalize hjq : j / q.ar.toNat = jq at *
      generalize j % q.ar.toNat = jr at *
      generalize har : q.ar.toNat = ar at *
      have e4 : (jq : Int) * (ar : Int) + (jr : Int) = (j : Int) := by rw [← dm]; push_cast; rw [Int.mul_comm]
      have e5 : 0 ≤ (jq : Int) * (ar : Int) := Int.mul_nonneg (by omega) (by omega)
      have w1 : IntKind.i64.wrap ((jq : Int) * (ar : Int)) = (jq : Int) * (ar : Int) := IntWalk.i64_in _ (by omega)
      have g1 : ((k : Int) < (Lv q : Int) - 1) = True := eq_true (by omega)
      have g2 : ((jr : Int) < 0) = False := eq_false (by omega)
      have g3 : ((ar : Int) ≤ (jr : Int)) = False := eq_false (by omega)
      have g4 : (ar ≤ jr) = False := eq_false (by omega)
      clear e1 e2 e3 hU hI hI2 dm hj2 y2
      go_wp2_with (first
        | (refine wpList_load_plan hst.st.blk _ rfl rfl rfl ?_)
        | (go_at_call 38; refine (PX.out _).mono ?_; rintro e Z1 ⟨rfl, hb⟩; have hA := (hst.call hb).alloc (.cells #[.int .i64 0, .int .i64 0] 39); have hz := heap_alloc_new Z1 (.cells #[.int .i64 0, .int .i64 0] 39); have hlo := blk_lt (hst.call hb).by_; clear x0 x1 hst hb)
        | (refine wpList_ownT hA hz hlo _ _ rfl rfl rfl rfl ?_; clear hA hz hlo; intro Z2 hB hBb; obtain ⟨x0, x1⟩ := hB.x; obtain ⟨u0, u1⟩ := item_load hBb; have d4 := hB.st.blk.c4; rw [c4] at d4)
        | (refine wpList_itemT hB _ _ rfl rfl rfl rfl ?_; clear x0 x1 u0 u1 d4 hB hBb; intro Z3 hC; obtain ⟨x0, x1⟩ := hC.x)
        | (refine wpList_load_plan hC.st.blk _ rfl rfl rfl ?_)
        | (go_at_call 31; refine (IT.out _).mono ?_; rintro e Z4 ⟨rfl, hb⟩; have hD := hC.call hb; clear x0 x1 hC hb))
      go_roundw
      case rel => exact ⟨k + 1, jq, hlt, by rw [har]; exact HJ.out, rfl, by push_cast; exact hD⟩
      case measure => rw [lvl_eq hD, lvl_eq hst0.out]; omega
    · have hU : hasU q (k : Int) (j : Int) = false := by unfold hasU; rw [hI, decide_eq_true (by omega)]; rfl
      rw [hU] at PX
      have w1e : wid q.pa.toNat q.ar.toNat k = 1 := by
        obtain ⟨z1, z2, z3⟩ := TF.out k hk
        have := fun x => hlt (z3.1 x)
        omega
      have j0 : j = 0 := by omega
      have q2 : ∀ W, (binOp .eql 39 (.agg #[.int .i64 (k : Int), .int .i64 (j : Int)]) (.agg #[.int .i64 ((Lv q : Int) - 1), .int .i64 0])).run Try.prog W = .ok (.bool true) W := fun W => by
        rw [eq39, show (k : Int) = (Lv q : Int) - 1 by omega, j0]; simp
      generalize upL q (k : Int) (j : Int) = r1 at *
      generalize upX q (k : Int) (j : Int) = r2 at *
      generalize upC q (k : Int) (j : Int) = r3 at *
      have g1 : ((k : Int) < (Lv q : Int) - 1) = False := eq_false (by omega)
      clear hU hI w1e j0 y2
      go_wp2_with (first    
        | (refine wpList_load_plan hst.st.blk _ rfl rfl rfl ?_)
        | (go_at_call 38; refine (PX.out _).mono ?_; rintro e Z1 ⟨rfl, hb⟩; have hA := (hst.call hb).alloc (.cells #[.int .i64 0, .int .i64 0] 39); have hz := heap_alloc_new Z1 (.cells #[.int .i64 0, .int .i64 0] 39); have hlo := blk_lt (hst.call hb).by_; clear x0 x1 hst hb)
        | (refine wpList_ownT hA hz hlo _ _ rfl rfl rfl rfl ?_; clear hA hz hlo; intro Z2 hB hBb; obtain ⟨x0, x1⟩ := hB.x))
      go_ret
      exact ⟨rfl, hB.st.bel⟩
set_option maxHeartbeats 4000000 in
set_option maxRecDepth 20000 in
theorem rtree_unlike (p q : Pl) (hqp : fitP p = q) (hq : right q = true) (k0 j0 : Nat) (yl yi : Int) (hk0 : k0 < Lv q) (hj0 : j0 < wid q.pa.toNat q.ar.toNat k0) (hy : hasI q yl yi = true) (hne : ¬ ((k0 : Int) = yl ∧ (j0 : Int) = yi)) (w : World) : Calls Try.prog 9 #[.agg p.arr, .agg #[.int .i64 (k0 : Int), .int .i64 (j0 : Int)], .agg #[.int .i64 yl, .int .i64 yi]] w fun e w' => e = .returned (.bool true) ∧ Below w.heap.size w w' := by
  have SP := Lib.hid (fun W => speaks6_true W)
  have FT := Lib.hid (fun W => refFit_any p W)
  have N := Lib.hid (TSt.new w p (k0 : Int) (j0 : Int) yl yi)
  rw [hqp] at FT
  clear hqp
  have IX := Lib.hid (fun W => item_any q (k0 : Int) (j0 : Int) W)
  have IY := Lib.hid (fun W => item_any q yl yi W)
  have LV := Lib.hid (fun W => refLevels_any q W)
  have L5 := Lv_le q
  have hs := (right_facts hq).2.1
  have sh := sh_of hs
  have c4 := sh.ar
  have a1 := sh.a1
  have a2 := sh.a2
  have TF := Lib.hid (tree_facts sh.n1 sh.n2 sh.a1 sh.a2).2.2
  rw [← sh.lv hs] at TF
  rw [hasI_mk hq hk0 hj0] at IX
  have wL : IntKind.i64.wrap ((Lv q : Int) - 1) = (Lv q : Int) - 1 := IntWalk.i64_in _ (by omega)
  have nA : ¬ (ItI q (k0 : Int) (j0 : Int) = ItI q yl yi) := fun e => hne (ItI_inj (hasI_mk hq hk0 hj0) hy e)
  have q1 : ∀ W, (binOp .eql 39 (.agg #[.int .i64 (k0 : Int), .int .i64 (j0 : Int)]) (.agg #[.int .i64 yl, .int .i64 yi])).run Try.prog W = .ok (.bool false) W := fun W => by
    rw [eq39]
    have : ((k0 : Int) == yl && (j0 : Int) == yi) = false := by rw [Bool.eq_false_iff]; intro h; rw [Bool.and_eq_true, beq_iff_eq, beq_iff_eq] at h; exact hne h
    rw [this]
  rw [hy] at IY
  generalize ItI q (k0 : Int) (j0 : Int) = A1 at *
  generalize ItI q yl yi = A2 at *
  have gA : (A1 = A2) = False := eq_false nA
  have gB : (A1 == A2) = false := by rw [beq_eq_false_iff_ne]; exact nA
  clear hy hne nA
  clear sh hs
  go_enter Try.func9, Try.ntmps9
  go_wp2_with (first
    | (go_at_call 25; refine (SP.out _).mono ?_; rintro e X0 ⟨rfl, hb⟩; have h1 := N.out.call hb; clear N hb)
    | (refine wpList_load_plan h1.st.blk _ rfl rfl rfl ?_)
    | (go_at_call 24; refine (FT.out _).mono ?_; rintro e X1 ⟨rfl, hb⟩; have h2 := h1.call hb; clear h1 hb)
    | (refine wpList_planT h2 _ _ rfl rfl rfl rfl ?_; clear h2; intro X2 h3; obtain ⟨x0, x1⟩ := h3.x)
    | (refine wpList_load_plan h3.st.blk _ rfl rfl rfl ?_)
    | (go_at_call 31; have _ := h3; refine (IX.out _).mono ?_; rintro e X3 ⟨rfl, hb⟩; have h4 := h3.call hb; clear x0 x1 h3 hb; obtain ⟨y0, y1⟩ := h4.y; obtain ⟨x0, x1⟩ := h4.x)
    | (refine wpList_load_plan h4.st.blk _ rfl rfl rfl ?_)
    | (go_at_call 31; have _ := h4; refine (IY.out _).mono ?_; rintro e X4 ⟨rfl, hb⟩; have h5 := h4.call hb; clear x0 x1 y0 y1 h4 hb; obtain ⟨y0, y1⟩ := h5.y; obtain ⟨x0, x1⟩ := h5.x)
    | (refine wpList_load_plan h5.st.blk _ rfl rfl rfl ?_)
    | (go_at_call 16; refine (LV.out _).mono ?_; rintro e X5 ⟨rfl, hb⟩; have h6 := h5.call hb; clear x0 x1 y0 y1 h5 hb))
  clear q1
  go_loopw [8] (TRel w q yl yi) (fun _ wr => Lv q - lvlOf w wr)
  case atStart => exact ⟨k0, j0, hk0, hj0, rfl, h6⟩
  case round =>
    clear h6
    obtain ⟨k, j, hk, hj, rfl, hst⟩ := hrel
    have PX := Lib.hid (fun W => parent_any q (k : Int) (j : Int) W)
    have hI := hasI_mk hq hk hj
    have y2 := (TF.out k hk).2.1
    have j16 : j < 16 := by omega
    have k5 : k < 5 := by omega
    have hst0 := Lib.hid hst
    obtain ⟨x0, x1⟩ := hst.x
    by_cases hlt : k + 1 < Lv q
    · have hU : hasU q (k : Int) (j : Int) = true := by unfold hasU; rw [hI, decide_eq_false (by omega)]; rfl
      have e1 : upL q (k : Int) (j : Int) = (k : Int) + 1 := by unfold upL; rw [if_pos hU]
      have e2 : upX q (k : Int) (j : Int) = ((j / q.ar.toNat : Nat) : Int) := by unfold upX; rw [if_pos hU, c4]; exact Int.ofNat_ediv_ofNat
      have e3 : upC q (k : Int) (j : Int) = ((j % q.ar.toNat : Nat) : Int) := by unfold upC; rw [if_pos hU, c4]; rfl
      rw [e1, e2, e3, hU] at PX
      have hj2 : j / q.ar.toNat < wid q.pa.toNat q.ar.toNat (k + 1) := by rw [wid_succ]; exact up_step a1 hj
      have hI2 := hasI_mk hq hlt hj2
      have IT : Hid (∀ W, Calls Try.prog 31 #[.agg q.arr, .agg #[.int .i64 ((k : Int) + 1), .int .i64 ((j / q.ar.toNat : Nat) : Int)]] W fun e w' => e = .returned (.tuple #[.int .i64 (ItI q ((k + 1 : Nat) : Int) ((j / q.ar.toNat : Nat) : Int)), .bool true]) ∧ Below W.heap.size W w') := fun W => by
        have h := item_any q ((k + 1 : Nat) : Int) ((j / q.ar.toNat : Nat) : Int) W
        rw [hI2] at h
        exact h
      have HJ := Lib.hid hj2
      have dm : q.ar.toNat * (j / q.ar.toNat) + j % q.ar.toNat = j := Nat.div_add_mod j q.ar.toNat
      have jr2 : j % q.ar.toNat < q.ar.toNat := Nat.mod_lt _ (by omega)
      have jq2 : j / q.ar.toNat ≤ j := Nat.div_le_self _ _
      generalize ItI q ((k + 1 : Nat) : Int) ((j / q.ar.toNat : Nat) : Int) = A2 at *
      generalize hjq : j / q.ar.toNat = jq at *
      generalize j % q.ar.toNat = jr at *
      generalize har : q.ar.toNat = ar at *
      have e4 : (jq : Int) * (ar : Int) + (jr : Int) = (j : Int) := by rw [← dm]; push_cast; rw [Int.mul_comm]
      have e5 : 0 ≤ (jq : Int) * (ar : Int) := Int.mul_nonneg (by omega) (by omega)
      have w1 : IntKind.i64.wrap ((jq : Int) * (ar : Int)) = (jq : Int) * (ar : Int) := IntWalk.i64_in _ (by omega)
      have g1 : ((k : Int) < (Lv q : Int) - 1) = True := eq_true (by omega)
      have g2 : ((jr : Int) < 0) = False := eq_false (by omega)
      have g3 : ((ar : Int) ≤ (jr : Int)) = False := eq_false (by omega)
      have g4 : (ar ≤ jr) = False := eq_false (by omega)
      clear e1 e2 e3 hU hI hI2 dm hj2 y2
      go_wp2_with (first
        | (refine wpList_load_plan hst.st.blk _ rfl rfl rfl ?_)
        | (go_at_call 38; refine (PX.out _).mono ?_; rintro e Z1 ⟨rfl, hb⟩; have hA := (hst.call hb).alloc (.cells #[.int .i64 0, .int .i64 0] 39); have hz := heap_alloc_new Z1 (.cells #[.int .i64 0, .int .i64 0] 39); have hlo := blk_lt (hst.call hb).by_; clear x0 x1 hst hb)
        | (refine wpList_ownT hA hz hlo _ _ rfl rfl rfl rfl ?_; clear hA hz hlo; intro Z2 hB hBb; obtain ⟨x0, x1⟩ := hB.x; obtain ⟨u0, u1⟩ := item_load hBb; have d4 := hB.st.blk.c4; rw [c4] at d4)
        | (refine wpList_itemT hB _ _ rfl rfl rfl rfl ?_; clear x0 x1 u0 u1 d4 hB hBb; intro Z3 hC; obtain ⟨x0, x1⟩ := hC.x)
        | (refine wpList_load_plan hC.st.blk _ rfl rfl rfl ?_)
        | (go_at_call 31; refine (IT.out _).mono ?_; rintro e Z4 ⟨rfl, hb⟩; have hD := hC.call hb; clear x0 x1 hC hb))
      go_roundw
      case rel => exact ⟨k + 1, jq, hlt, by rw [har]; exact HJ.out, rfl, by push_cast; exact hD⟩
      case measure => rw [lvl_eq hD, lvl_eq hst0.out]; omega
    · have hU : hasU q (k : Int) (j : Int) = false := by unfold hasU; rw [hI, decide_eq_true (by omega)]; rfl
      rw [hU] at PX
      have w1e : wid q.pa.toNat q.ar.toNat k = 1 := by
        obtain ⟨z1, z2, z3⟩ := TF.out k hk
        have := fun x => hlt (z3.1 x)
        omega
      have j0 : j = 0 := by omega
      have q2 : ∀ W, (binOp .eql 39 (.agg #[.int .i64 (k : Int), .int .i64 (j : Int)]) (.agg #[.int .i64 ((Lv q : Int) - 1), .int .i64 0])).run Try.prog W = .ok (.bool true) W := fun W => by
        rw [eq39, show (k : Int) = (Lv q : Int) - 1 by omega, j0]; simp
      generalize upL q (k : Int) (j : Int) = r1 at *
      generalize upX q (k : Int) (j : Int) = r2 at *
      generalize upC q (k : Int) (j : Int) = r3 at *
      have g1 : ((k : Int) < (Lv q : Int) - 1) = False := eq_false (by omega)
      clear hU hI w1e j0 y2
      go_wp2_with (first    
        | (refine wpList_load_plan hst.st.blk _ rfl rfl rfl ?_)
        | (go_at_call 38; refine (PX.out _).mono ?_; rintro e Z1 ⟨rfl, hb⟩; have hA := (hst.call hb).alloc (.cells #[.int .i64 0, .int .i64 0] 39); have hz := heap_alloc_new Z1 (.cells #[.int .i64 0, .int .i64 0] 39); have hlo := blk_lt (hst.call hb).by_; clear x0 x1 hst hb)
        | (refine wpList_ownT hA hz hlo _ _ rfl rfl rfl rfl ?_; clear hA hz hlo; intro Z2 hB hBb; obtain ⟨x0, x1⟩ := hB.x))
      go_ret
      exact ⟨rfl, hB.st.bel⟩
set_option maxHeartbeats 4000000 in
set_option maxRecDepth 20000 in
theorem rtree_same (p q : Pl) (hqp : fitP p = q) (hq : right q = true) (k0 j0 : Nat) (yl yi : Int) (hk0 : k0 < Lv q) (hj0 : j0 < wid q.pa.toNat q.ar.toNat k0) (ey1 : yl = (k0 : Int)) (ey2 : yi = (j0 : Int)) (w : World) : Calls Try.prog 9 #[.agg p.arr, .agg #[.int .i64 (k0 : Int), .int .i64 (j0 : Int)], .agg #[.int .i64 yl, .int .i64 yi]] w fun e w' => e = .returned (.bool true) ∧ Below w.heap.size w w' := by
  have SP := Lib.hid (fun W => speaks6_true W)
  have FT := Lib.hid (fun W => refFit_any p W)
  have N := Lib.hid (TSt.new w p (k0 : Int) (j0 : Int) yl yi)
  rw [hqp] at FT
  clear hqp
  have IX := Lib.hid (fun W => item_any q (k0 : Int) (j0 : Int) W)
  have IY := Lib.hid (fun W => item_any q yl yi W)
  have LV := Lib.hid (fun W => refLevels_any q W)
  have L5 := Lv_le q
  have hs := (right_facts hq).2.1
  have sh := sh_of hs
  have c4 := sh.ar
  have a1 := sh.a1
  have a2 := sh.a2
  have TF := Lib.hid (tree_facts sh.n1 sh.n2 sh.a1 sh.a2).2.2
  rw [← sh.lv hs] at TF
  rw [hasI_mk hq hk0 hj0] at IX
  have wL : IntKind.i64.wrap ((Lv q : Int) - 1) = (Lv q : Int) - 1 := IntWalk.i64_in _ (by omega)
  subst ey1 ey2
  have q1 : ∀ W, (binOp .eql 39 (.agg #[.int .i64 (k0 : Int), .int .i64 (j0 : Int)]) (.agg #[.int .i64 (k0 : Int), .int .i64 (j0 : Int)])).run Try.prog W = .ok (.bool true) W := fun W => by
    rw [eq39]; simp
  rw [hasI_mk hq hk0 hj0] at IY
  generalize ItI q (k0 : Int) (j0 : Int) = A1 at *
  clear sh hs
  go_enter Try.func9, Try.ntmps9
  go_wp2_with (first
    | (go_at_call 25; refine (SP.out _).mono ?_; rintro e X0 ⟨rfl, hb⟩; have h1 := N.out.call hb; clear N hb)
    | (refine wpList_load_plan h1.st.blk _ rfl rfl rfl ?_)
    | (go_at_call 24; refine (FT.out _).mono ?_; rintro e X1 ⟨rfl, hb⟩; have h2 := h1.call hb; clear h1 hb)
    | (refine wpList_planT h2 _ _ rfl rfl rfl rfl ?_; clear h2; intro X2 h3; obtain ⟨x0, x1⟩ := h3.x)
    | (refine wpList_load_plan h3.st.blk _ rfl rfl rfl ?_)
    | (go_at_call 31; have _ := h3; refine (IX.out _).mono ?_; rintro e X3 ⟨rfl, hb⟩; have h4 := h3.call hb; clear x0 x1 h3 hb; obtain ⟨y0, y1⟩ := h4.y; obtain ⟨x0, x1⟩ := h4.x)
    | (refine wpList_load_plan h4.st.blk _ rfl rfl rfl ?_)
    | (go_at_call 31; have _ := h4; refine (IY.out _).mono ?_; rintro e X4 ⟨rfl, hb⟩; have h5 := h4.call hb; clear x0 x1 y0 y1 h4 hb; obtain ⟨y0, y1⟩ := h5.y; obtain ⟨x0, x1⟩ := h5.x)
    | (refine wpList_load_plan h5.st.blk _ rfl rfl rfl ?_)
    | (go_at_call 16; refine (LV.out _).mono ?_; rintro e X5 ⟨rfl, hb⟩; have h6 := h5.call hb; clear x0 x1 y0 y1 h5 hb))
  clear q1
  go_loopw [8] (TRel w q (k0 : Int) (j0 : Int)) (fun _ wr => Lv q - lvlOf w wr)
  case atStart => exact ⟨k0, j0, hk0, hj0, rfl, h6⟩
  case round =>
    clear h6
    obtain ⟨k, j, hk, hj, rfl, hst⟩ := hrel
    have PX := Lib.hid (fun W => parent_any q (k : Int) (j : Int) W)
    have hI := hasI_mk hq hk hj
    have y2 := (TF.out k hk).2.1
    have j16 : j < 16 := by omega
    have k5 : k < 5 := by omega
    have hst0 := Lib.hid hst
    obtain ⟨x0, x1⟩ := hst.x
    by_cases hlt : k + 1 < Lv q
    · have hU : hasU q (k : Int) (j : Int) = true := by unfold hasU; rw [hI, decide_eq_false (by omega)]; rfl
      have e1 : upL q (k : Int) (j : Int) = (k : Int) + 1 := by unfold upL; rw [if_pos hU]
      have e2 : upX q (k : Int) (j : Int) = ((j / q.ar.toNat : Nat) : Int) := by unfold upX; rw [if_pos hU, c4]; exact Int.ofNat_ediv_ofNat
      have e3 : upC q (k : Int) (j : Int) = ((j % q.ar.toNat : Nat) : Int) := by unfold upC; rw [if_pos hU, c4]; rfl
      rw [e1, e2, e3, hU] at PX
      have hj2 : j / q.ar.toNat < wid q.pa.toNat q.ar.toNat (k + 1) := by rw [wid_succ]; exact up_step a1 hj
      have hI2 := hasI_mk hq hlt hj2
      have IT : Hid (∀ W, Calls Try.prog 31 #[.agg q.arr, .agg #[.int .i64 ((k : Int) + 1), .int .i64 ((j / q.ar.toNat : Nat) : Int)]] W fun e w' => e = .returned (.tuple #[.int .i64 (ItI q ((k + 1 : Nat) : Int) ((j / q.ar.toNat : Nat) : Int)), .bool true]) ∧ Below W.heap.size W w') := fun W => by
        have h := item_any q ((k + 1 : Nat) : Int) ((j / q.ar.toNat : Nat) : Int) W
        rw [hI2] at h
        exact h
      have HJ := Lib.hid hj2
      have dm : q.ar.toNat * (j / q.ar.toNat) + j % q.ar.toNat = j := Nat.div_add_mod j q.ar.toNat
      have jr2 : j % q.ar.toNat < q.ar.toNat := Nat.mod_lt _ (by omega)
      have jq2 : j / q.ar.toNat ≤ j := Nat.div_le_self _ _
      generalize ItI q ((k + 1 : Nat) : Int) ((j / q.ar.toNat : Nat) : Int) = A2 at *
      generalize hjq : j / q.ar.toNat = jq at *
      generalize j % q.ar.toNat = jr at *
      generalize har : q.ar.toNat = ar at *
      have e4 : (jq : Int) * (ar : Int) + (jr : Int) = (j : Int) := by rw [← dm]; push_cast; rw [Int.mul_comm]
      have e5 : 0 ≤ (jq : Int) * (ar : Int) := Int.mul_nonneg (by omega) (by omega)
      have w1 : IntKind.i64.wrap ((jq : Int) * (ar : Int)) = (jq : Int) * (ar : Int) := IntWalk.i64_in _ (by omega)
      have g1 : ((k : Int) < (Lv q : Int) - 1) = True := eq_true (by omega)
      have g2 : ((jr : Int) < 0) = False := eq_false (by omega)
      have g3 : ((ar : Int) ≤ (jr : Int)) = False := eq_false (by omega)
      have g4 : (ar ≤ jr) = False := eq_false (by omega)
      clear e1 e2 e3 hU hI hI2 dm hj2 y2
      go_wp2_with (first
        | (refine wpList_load_plan hst.st.blk _ rfl rfl rfl ?_)
        | (go_at_call 38; refine (PX.out _).mono ?_; rintro e Z1 ⟨rfl, hb⟩; have hA := (hst.call hb).alloc (.cells #[.int .i64 0, .int .i64 0] 39); have hz := heap_alloc_new Z1 (.cells #[.int .i64 0, .int .i64 0] 39); have hlo := blk_lt (hst.call hb).by_; clear x0 x1 hst hb)
        | (refine wpList_ownT hA hz hlo _ _ rfl rfl rfl rfl ?_; clear hA hz hlo; intro Z2 hB hBb; obtain ⟨x0, x1⟩ := hB.x; obtain ⟨u0, u1⟩ := item_load hBb; have d4 := hB.st.blk.c4; rw [c4] at d4)
        | (refine wpList_itemT hB _ _ rfl rfl rfl rfl ?_; clear x0 x1 u0 u1 d4 hB hBb; intro Z3 hC; obtain ⟨x0, x1⟩ := hC.x)
        | (refine wpList_load_plan hC.st.blk _ rfl rfl rfl ?_)
        | (go_at_call 31; refine (IT.out _).mono ?_; rintro e Z4 ⟨rfl, hb⟩; have hD := hC.call hb; clear x0 x1 hC hb))
      go_roundw
      case rel => exact ⟨k + 1, jq, hlt, by rw [har]; exact HJ.out, rfl, by push_cast; exact hD⟩
      case measure => rw [lvl_eq hD, lvl_eq hst0.out]; omega
    · have hU : hasU q (k : Int) (j : Int) = false := by unfold hasU; rw [hI, decide_eq_true (by omega)]; rfl
      rw [hU] at PX
      have w1e : wid q.pa.toNat q.ar.toNat k = 1 := by
        obtain ⟨z1, z2, z3⟩ := TF.out k hk
        have := fun x => hlt (z3.1 x)
        omega
      have j0 : j = 0 := by omega
      have q2 : ∀ W, (binOp .eql 39 (.agg #[.int .i64 (k : Int), .int .i64 (j : Int)]) (.agg #[.int .i64 ((Lv q : Int) - 1), .int .i64 0])).run Try.prog W = .ok (.bool true) W := fun W => by
        rw [eq39, show (k : Int) = (Lv q : Int) - 1 by omega, j0]; simp
      generalize upL q (k : Int) (j : Int) = r1 at *
      generalize upX q (k : Int) (j : Int) = r2 at *
      generalize upC q (k : Int) (j : Int) = r3 at *
      have g1 : ((k : Int) < (Lv q : Int) - 1) = False := eq_false (by omega)
      clear hU hI w1e j0 y2
      go_wp2_with (first    
        | (refine wpList_load_plan hst.st.blk _ rfl rfl rfl ?_)
        | (go_at_call 38; refine (PX.out _).mono ?_; rintro e Z1 ⟨rfl, hb⟩; have hA := (hst.call hb).alloc (.cells #[.int .i64 0, .int .i64 0] 39); have hz := heap_alloc_new Z1 (.cells #[.int .i64 0, .int .i64 0] 39); have hlo := blk_lt (hst.call hb).by_; clear x0 x1 hst hb)
        | (refine wpList_ownT hA hz hlo _ _ rfl rfl rfl rfl ?_; clear hA hz hlo; intro Z2 hB hBb; obtain ⟨x0, x1⟩ := hB.x))
      go_ret
      exact ⟨rfl, hB.st.bel⟩
theorem rtree_any (p : Pl) (xl xi yl yi : Int) (w : World) : Calls Try.prog 9 #[.agg p.arr, .agg #[.int .i64 xl, .int .i64 xi], .agg #[.int .i64 yl, .int .i64 yi]] w fun e w' => e = .returned (.bool true) ∧ Below w.heap.size w w' := by
  have hq := fit_right p
  cases hx : hasI (fitP p) xl xi
  · exact rtree_out p _ rfl xl xi yl yi hx w
  obtain ⟨-, k, j, rfl, rfl, hk, hj⟩ := hasI_facts hx
  cases hy : hasI (fitP p) yl yi
  · exact rtree_alone p _ rfl hq k j yl yi hk hj hy w
  by_cases e : (k : Int) = yl ∧ (j : Int) = yi
  · exact rtree_same p _ rfl hq k j yl yi hk hj e.1.symm e.2.symm w
  · exact rtree_unlike p _ rfl hq k j yl yi hk hj hy e w
end Go.Proofs.Ytcbpnmcfiohndaa
