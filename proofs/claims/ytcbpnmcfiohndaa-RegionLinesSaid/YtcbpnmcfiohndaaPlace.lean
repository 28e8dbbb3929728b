/- What stands at an address, the function. No statement is proved here. -/
import Derived.Test.YtcbpnmcfiohndaaItemOf
namespace Go.Proofs.Ytcbpnmcfiohndaa
open Go.RowKit
set_option linter.unusedVariables false
set_option linter.unusedSimpArgs false

/-- A place: kind, line, level, index, offset. -/
structure Pc where
  k : Int
  n : Int
  l : Int
  i : Int
  o : Int
def Pc.arr (c : Pc) : Array Value := #[.int .i64 c.k, .int .i64 c.n, .int .i64 c.l, .int .i64 c.i, .int .i64 c.o]
theorem sz44 : (Try.prog.info? 44).map (·.size) = some 5 := by kernel_rfl
/-- A plan and a place in two blocks. -/
structure XSt (w : World) (p : Pl) (c : Pc) (W : World) : Prop where
  st : PSt w w.heap.size p W
  it : W.heap[w.heap.size + 1]? = some (.cells c.arr 44 (0, 0))
section
variable {w W W' : World} {p : Pl} {c c' : Pc}
theorem XSt.call (h : XSt w p c W) (hb : Below W.heap.size W W') : XSt w p c W' := ⟨h.st.call hb, (hb.block _ (blk_lt h.it)).trans h.it⟩
theorem XSt.new (w : World) (p : Pl) : XSt w p ⟨0, 0, 0, 0, 0⟩ ((w.alloc (.cells p.arr 28)).alloc (.cells #[.int .i64 0, .int .i64 0, .int .i64 0, .int .i64 0, .int .i64 0] 44)) :=
  ⟨⟨(PBlk.new w p).alloc _, (((Below.refl _ _).alloc (Nat.le_refl _) _).alloc (by simp) _)⟩, heap_alloc2_new w _ _⟩
theorem XSt.put (h : XSt w p c W) (c' : Pc) : XSt w p c' (W.setRow (w.heap.size + 1) c'.arr) := by
  have hb := h.it
  exact ⟨⟨(heap_setRow_far W _ _ _ (by omega)).trans h.st.blk, h.st.bel.trans ⟨rfl, rfl, rfl, by simp [World.setRow], fun k hk => heap_setRow_far W _ k _ (by omega)⟩⟩, by simp [World.setRow, Array.getElem?_modify, hb]⟩
theorem wpList_store_X {ops : Array Oper} {rest : List Oper} {o : Oper} {a : Act} {Q : Exit → Act → World → Prop} {k n l i f : Int} (h : XSt w p c W) (x y : Operand) (ho : o.op = .store 44 x y) (hx : a.eval x = .pointer (some ⟨w.heap.size + 1, 0, none⟩)) (hw : Region.wanted o (yielded ops a.tmps) = true) (hy : a.eval y = .agg #[.int .i64 k, .int .i64 n, .int .i64 l, .int .i64 i, .int .i64 f])
    (kk : ∀ W', XSt w p ⟨k, n, l, i, f⟩ W' → wpList Try.prog ops Q rest (a.put o.dst undef) W') : wpList Try.prog ops Q (o :: rest) a W := by
  unfold wpList
  rw [if_pos hw]
  exact .inl (wp_store_row 44 x y ho (w.heap.size + 1) #[.int .i64 k, .int .i64 n, .int .i64 l, .int .i64 i, .int .i64 f] hx hy 44 c.arr h.it sz44 rfl (by simp [Value.oneCell']) (kk _ (h.put ⟨k, n, l, i, f⟩)))
end
theorem results_place {fn : Func} {t1 t2 : Tmp} (h : fn.results = #[.cell t1 44, .tmp t2]) (tmps : Array Value) (W : World) (g : Nat) (hp : tmps.getD t1 undef = .pointer (some ⟨g, 0, none⟩)) (c : Pc) (hg : W.heap[g]? = some (.cells c.arr 44 (0, 0))) :
    (results fn tmps).run Try.prog W = .ok (.tuple #[.agg c.arr, tmps.getD t2 undef]) W := by
  have hp' : tmps[t1]?.getD undef = .pointer (some ⟨g, 0, none⟩) := by simpa using hp
  have hl := run_loadVar_row (P := Try.prog) W g 44 44 c.arr (0, 0) _ hg Try.underlying44 rfl sz44
  simp [results, h, hp', asAddr, hl]
/-- Whether there is something at an address, and what. -/
def hasP (p : Pl) (m : Int) : Bool := decide (0 ≤ m) && decide (m < SzI p)
noncomputable def plAt (p : Pl) (m : Int) : Pc :=
  if hasP p m then
    if m < 32 * Al p then ⟨1, m / 32, 0, 0, m % 32⟩
    else if m < 32 * Al p + 8 * Al p then ⟨2, (m - 32 * Al p) / 8, 0, 0, (m - 32 * Al p) % 8⟩
    else ⟨3, 0, ((itAt p.pa.toNat p.ar.toNat (Lv p) ((m - (32 * Al p + 8 * Al p)) / 32).toNat).1 : Nat), ((itAt p.pa.toNat p.ar.toNat (Lv p) ((m - (32 * Al p + 8 * Al p)) / 32).toNat).2 : Nat), (m - (32 * Al p + 8 * Al p)) % 32⟩
  else ⟨0, 0, 0, 0, 0⟩
attribute [local irreducible] shaped Ls Lv Wd Al right bounded fitP sw hasI hasL itAt
set_option maxHeartbeats 2000000 in
set_option maxRecDepth 20000 in
theorem place_any (p : Pl) (m : Int) (w : World) : Calls Try.prog 32 #[.agg p.arr, .int .i64 m] w fun e w' => e = .returned (.tuple #[.agg (plAt p m).arr, .bool (hasP p m)]) ∧ Below w.heap.size w w' := by
  have SZ := Lib.hid (fun W => size_any p W)
  have N := Lib.hid (XSt.new w p)
  by_cases h0 : m < 0
  · have e0 : hasP p m = false := by unfold hasP; rw [decide_eq_false (by omega)]; rfl
    have E : Hid (plAt p m = ⟨0, 0, 0, 0, 0⟩) := by unfold plAt; rw [e0]; exact rfl
    rw [E.out, e0]
    clear e0 E
    generalize SzI p = z at *
    have g0 : (m < 0) = True := eq_true h0
    go_enter Try.func32, Try.ntmps32
    go_wp2_with (first
      | (refine wpList_load_plan N.out.st.blk _ rfl rfl rfl ?_)
      | (go_at_call 26; refine (SZ.out _).mono ?_; rintro e X1 ⟨rfl, hb⟩; have h1 := N.out.call hb; clear N hb)
      | (refine wpList_store_X N.out _ _ rfl rfl rfl rfl ?_; intro X hX; clear N))
    exact bodyPost_ret (results_place Try.results32 _ _ (w.heap.size + 1) rfl _ hX.it) rfl ⟨rfl, hX.st.bel⟩
  by_cases h1 : SzI p ≤ m
  · have e0 : hasP p m = false := by unfold hasP; rw [decide_eq_false (show ¬ m < SzI p by omega), Bool.and_false]
    have E : Hid (plAt p m = ⟨0, 0, 0, 0, 0⟩) := by unfold plAt; rw [e0]; exact rfl
    rw [E.out, e0]
    clear e0 E
    generalize SzI p = z at *
    go_enter Try.func32, Try.ntmps32
    go_wp2_with (first
      | (refine wpList_load_plan N.out.st.blk _ rfl rfl rfl ?_)
      | (go_at_call 26; refine (SZ.out _).mono ?_; rintro e X1 ⟨rfl, hb⟩; have n1 := N.out.call hb; clear N hb)
      | (refine wpList_store_X n1 _ _ rfl rfl rfl rfl ?_; intro X hX; clear n1))
    exact bodyPost_ret (results_place Try.results32 _ _ (w.heap.size + 1) rfl _ hX.it) rfl ⟨rfl, hX.st.bel⟩
  have hr : right p = true := by
    cases hr : right p
    · exfalso; unfold SzI at h1; rw [hr] at h1; simp at h1; omega
    · rfl
  have hs := (right_facts hr).2.1
  have sh := sh_of hs
  have s1 := sw_le sh.n1 sh.n2 sh.a1 sh.a2 (Lv p) (by rw [sh.lv hs]; exact Nat.le_refl _)
  have EZ : SzI p = 32 * Al p + 8 * Al p + 32 * (sw p.pa.toNat p.ar.toNat (Lv p) : Int) := by unfold SzI; rw [hr]; exact rfl
  obtain ⟨a0, a1⟩ := Al_bounds p
  have e0 : hasP p m = true := by unfold hasP; rw [decide_eq_true (by omega), decide_eq_true (by omega)]; rfl
  have TG := Lib.hid (fun W => tagsAt_any p W)
  have IT := Lib.hid (fun W => itemsAt_any p W)
  have IO := Lib.hid (fun j hj W => itemOf_any p j hs hj W)
  have EP : Hid (plAt p m = if m < 32 * Al p then ⟨1, m / 32, 0, 0, m % 32⟩
    else if m < 32 * Al p + 8 * Al p then ⟨2, (m - 32 * Al p) / 8, 0, 0, (m - 32 * Al p) % 8⟩
    else ⟨3, 0, ((itAt p.pa.toNat p.ar.toNat (Lv p) ((m - (32 * Al p + 8 * Al p)) / 32).toNat).1 : Nat), ((itAt p.pa.toNat p.ar.toNat (Lv p) ((m - (32 * Al p + 8 * Al p)) / 32).toNat).2 : Nat), (m - (32 * Al p + 8 * Al p)) % 32⟩) := by unfold plAt; rw [e0]; exact rfl
  rw [e0]
  obtain ⟨c, rfl⟩ : ∃ c : Nat, m = (c : Int) := ⟨m.toNat, by omega⟩
  generalize plAt p c = P at *
  clear e0 hr sh hs
  generalize SzI p = z at *
  generalize Lv p = L at *
  generalize p.pa.toNat = n at *
  generalize p.ar.toNat = ar at *
  generalize hsw : sw n ar L = s at *
  generalize hA : Al p = A at *
  obtain ⟨B, rfl⟩ : ∃ B : Nat, A = (B : Int) := ⟨A.toNat, by omega⟩
  clear hA
  have cb : c < 100000 := by omega
  have g0 : ((c : Int) < 0) = False := eq_false h0
  have g1 : ((c : Int) < z) = True := eq_true (by omega)
  by_cases h2 : c < 32 * B
  · have E : Hid (P = ⟨1, (c / 32 : Nat), 0, 0, (c % 32 : Nat)⟩) := by rw [EP.out, if_pos (by omega)]; exact rfl
    clear EP
    have g2 : ((c : Int) < 32 * (B : Int)) = True := eq_true (by omega)
    go_enter Try.func32, Try.ntmps32
    go_wp2_with (first
      | (refine wpList_load_plan N.out.st.blk _ rfl rfl rfl ?_)
      | (refine wpList_load_plan n1.st.blk _ rfl rfl rfl ?_)
      | (go_at_call 26; refine (SZ.out _).mono ?_; rintro e X1 ⟨rfl, hb⟩; have n1 := N.out.call hb; clear N hb)
      | (go_at_call 50; refine (TG.out _).mono ?_; rintro e X2 ⟨rfl, hb⟩; have n2 := n1.call hb; clear n1 hb)
      | (refine wpList_store_X n2 _ _ rfl rfl rfl rfl ?_; intro X hX; clear n2))
    exact bodyPost_ret (results_place Try.results32 _ _ (w.heap.size + 1) rfl _ hX.it) rfl ⟨by rw [E.out]; rfl, hX.st.bel⟩
  by_cases h3 : c < 40 * B
  · have E : Hid (P = ⟨2, ((c - 32 * B) / 8 : Nat), 0, 0, ((c - 32 * B) % 8 : Nat)⟩) := by
      rw [EP.out, if_neg (by omega), if_pos (by omega), show (c : Int) - 32 * (B : Int) = ((c - 32 * B : Nat) : Int) by omega]; exact rfl
    clear EP
    have g2 : ((c : Int) < 32 * (B : Int)) = False := eq_false (by omega)
    have g3 : ((c : Int) < 32 * (B : Int) + 8 * (B : Int)) = True := eq_true (by omega)
    have g4 : (c : Int) - 32 * (B : Int) = ((c - 32 * B : Nat) : Int) := by omega
    generalize hd : c - 32 * B = d at *
    have w1 : IntKind.i64.wrap ((c : Int) - 32 * (B : Int)) = (d : Int) := by rw [g4]; exact IntWalk.i64_in _ (by omega)
    have hd2 : d < 100000 := by omega
    go_enter Try.func32, Try.ntmps32
    go_wp2_with (first
      | (refine wpList_load_plan N.out.st.blk _ rfl rfl rfl ?_)
      | (refine wpList_load_plan n1.st.blk _ rfl rfl rfl ?_)
      | (refine wpList_load_plan n2.st.blk _ rfl rfl rfl ?_)
      | (refine wpList_load_plan n3.st.blk _ rfl rfl rfl ?_)
      | (go_at_call 26; refine (SZ.out _).mono ?_; rintro e X1 ⟨rfl, hb⟩; have n1 := N.out.call hb; clear N hb)
      | (have := n1; go_at_call 50; refine (TG.out _).mono ?_; rintro e X2 ⟨rfl, hb⟩; have n2 := n1.call hb; clear n1 hb)
      | (go_at_call 46; refine (IT.out _).mono ?_; rintro e X3 ⟨rfl, hb⟩; have n3 := n2.call hb; clear n2 hb)
      | (have := n3; go_at_call 50; refine (TG.out _).mono ?_; rintro e X4 ⟨rfl, hb⟩; have n4 := n3.call hb; clear n3 hb)
      | (refine wpList_store_X n4 _ _ rfl rfl rfl rfl ?_; intro X hX; clear n4))
    exact bodyPost_ret (results_place Try.results32 _ _ (w.heap.size + 1) rfl _ hX.it) rfl ⟨by rw [E.out]; rfl, hX.st.bel⟩
  have IO2 := Lib.hid (IO.out ((c - 40 * B) / 32) (by omega))
  have E : Hid (P = ⟨3, 0, ((itAt n ar L ((c - 40 * B) / 32)).1 : Nat), ((itAt n ar L ((c - 40 * B) / 32)).2 : Nat), ((c - 40 * B) % 32 : Nat)⟩) := by
    rw [EP.out, if_neg (by omega), if_neg (by omega), show (c : Int) - (32 * (B : Int) + 8 * (B : Int)) = ((c - 40 * B : Nat) : Int) by omega, show (((c - 40 * B : Nat) : Int) / 32).toNat = (c - 40 * B) / 32 by omega]; exact rfl
  clear EP IO
  have g2 : ((c : Int) < 32 * (B : Int)) = False := eq_false (by omega)
  have g3 : ((c : Int) < 32 * (B : Int) + 8 * (B : Int)) = False := eq_false (by omega)
  have g4 : (c : Int) - (32 * (B : Int) + 8 * (B : Int)) = ((c - 40 * B : Nat) : Int) := by omega
  generalize (itAt n ar L ((c - 40 * B) / 32)).1 = x1 at *
  generalize (itAt n ar L ((c - 40 * B) / 32)).2 = x2 at *
  generalize hd : c - 40 * B = d at *
  have w1 : IntKind.i64.wrap ((c : Int) - (32 * (B : Int) + 8 * (B : Int))) = (d : Int) := by rw [g4]; exact IntWalk.i64_in _ (by omega)
  have hd2 : d < 100000 := by omega
  go_enter Try.func32, Try.ntmps32
  go_wp2_with (first
    | (refine wpList_load_plan N.out.st.blk _ rfl rfl rfl ?_)
    | (refine wpList_load_plan n1.st.blk _ rfl rfl rfl ?_)
    | (refine wpList_load_plan n2.st.blk _ rfl rfl rfl ?_)
    | (refine wpList_load_plan n3.st.blk _ rfl rfl rfl ?_)
    | (refine wpList_load_plan n4.st.blk _ rfl rfl rfl ?_)
    | (go_at_call 26; refine (SZ.out _).mono ?_; rintro e X1 ⟨rfl, hb⟩; have n1 := N.out.call hb; clear N hb)
    | (have := n1; go_at_call 50; refine (TG.out _).mono ?_; rintro e X2 ⟨rfl, hb⟩; have n2 := n1.call hb; clear n1 hb)
    | (have := n2; go_at_call 46; refine (IT.out _).mono ?_; rintro e X3 ⟨rfl, hb⟩; have n3 := n2.call hb; clear n2 hb)
    | (have := n3; go_at_call 46; refine (IT.out _).mono ?_; rintro e X4 ⟨rfl, hb⟩; have n4 := n3.call hb; clear n3 hb)
    | (have := n4; go_at_call 52; refine (IO2.out _).mono ?_; rintro e X5 ⟨rfl, hb⟩; have n5 := n4.call hb; clear n4 hb)
    | (refine wpList_store_X n5 _ _ rfl rfl rfl rfl ?_; intro X hX; clear n5))
  exact bodyPost_ret (results_place Try.results32 _ _ (w.heap.size + 1) rfl _ hX.it) rfl ⟨by rw [E.out]; rfl, hX.st.bel⟩
end Go.Proofs.Ytcbpnmcfiohndaa
