/- A net's links that have messages, and how many messages all have. No statement is proved here. -/
import Derived.Test.YtacjdeppigdbjaaNet6
namespace Go.Proofs.Ytacjdeppigdbjaa
open Go.RowKit
set_option linter.unusedVariables false
set_option linter.unusedSimpArgs false

theorem quo_run (x y : Nat) (hy : 0 < y) (hx : x ≤ 1000000) (W : World) : (binOp .quo 3 (.int .i64 (x : Int)) (.int .i64 (y : Int))).run Try.prog W = .ok (.int .i64 ((x / y : Nat) : Int)) W := by
  have h0 : ¬ ((y : Int) = 0) := by omega
  have h1 : x / y ≤ x := Nat.div_le_self x y
  go_simp
  rw [if_neg (by omega)]
  have e : (x : Int) / (y : Int) = ((x / y : Nat) : Int) := (Int.natCast_ediv x y).symm
  rw [e]
  generalize x / y = z at *
  rw [IntWalk.i64_in _ (by omega)]
theorem rem_run (x y : Nat) (hy : 0 < y) (hx : x ≤ 1000000) (W : World) : (binOp .rem 3 (.int .i64 (x : Int)) (.int .i64 (y : Int))).run Try.prog W = .ok (.int .i64 ((x % y : Nat) : Int)) W := by
  have h0 : ¬ ((y : Int) = 0) := by omega
  go_simp
  rw [if_neg (by omega), Int.tmod_eq_emod_of_nonneg (by omega)]
theorem exec_bin {o : Oper} {a : Act} {op : BinOp} {t t2 : TypeId} {x y : Operand} {u v r : Value} (W : World) (ho : o.op = .binOp op t x y t2) (hx : a.eval x = u) (hy : a.eval y = v) (h : (binOp op t u v).run Try.prog W = .ok r W) (hg : ∀ W, (eqGuard op t x y u v).run Try.prog W = .ok () W := by intro W; rfl) : (execOp a.eval o).run Try.prog W = .ok (.value r) W := by
  unfold execOp
  simp only [ho, hx, hy, Sem.run_bind, h, hg, Result.andThen_ok, Sem.run_pure]
theorem results_one {P : Program} {fn : Func} {p : Tmp} {ty : TypeId} (h : fn.results = #[.cell p ty]) (tmps : Array Value) (w : World) (g : Nat) (hp : tmps.getD p undef = .pointer (some ⟨g, 0, none⟩)) (v : Value)
    (hl : (loadVar ty ⟨g, 0, none⟩).run P w = .ok v w) : (results fn tmps).run P w = .ok v w := by
  have hp' : tmps[p]?.getD undef = .pointer (some ⟨g, 0, none⟩) := by simpa using hp
  simp [results, h, hp', asAddr, hl]
set_option maxHeartbeats 1000000 in
theorem link_any (g n i : Nat) (hn : 0 < n) (hi : i ≤ 1000) (W : World) (c0 : W.cell? ⟨g, 0, none⟩ = some (.int .i64 (n : Int))) (hg : g < W.heap.size) :
    Calls Try.prog 41 #[.pointer (some ⟨g, 0, none⟩), .int .i64 (i : Int)] W fun e W' => e = .returned (.agg #[.int .i64 ((i / n / n : Nat) : Int), .int .i64 ((i / n % n : Nat) : Int), .int .i64 ((i % n : Nat) : Int)]) ∧ Below W.heap.size W W' := by
  have h0 := St.nil W
  have l1 : i / n ≤ i := Nat.div_le_self i n
  have D1 := fun W => quo_run i n hn (by omega) W
  have D2 := fun W => quo_run (i / n) n hn (by omega) W
  have D3 := fun W => rem_run (i / n) n hn (by omega) W
  have D4 := fun W => rem_run i n hn (by omega) W
  generalize i / n / n = x2 at *
  generalize i / n % n = y1 at *
  generalize i % n = y0 at *
  generalize i / n = x1 at *
  replace c0 := Lib.hid c0
  replace hg := Lib.hid hg
  clear hi l1 hn
  go_enter Try.func41, Try.ntmps41
  go_wp2_with (refine wpList_alloc_st h0 51 rfl rfl _ #[.int .i64 0, .int .i64 0, .int .i64 0] zero51 rfl ?_; clear h0; intro W1 h1 _ _)
  have h2 := h1.drew
  clear h1
  have H0 := Lib.hid ((h2.bel.cell (p := ⟨g, 0, none⟩) hg.out).trans c0.out)
  refine wp_region_held_drew (S := fun V => V.cell? ⟨g, 0, none⟩ = some (.int .i64 (n : Int))) (by kernel_rfl) H0.out (fun _ => ?_)
  generalize W1.drew = V0 at *
  generalize W.heap.size = b4 at h2 ⊢
  refine wpAnyH_take (i := 0) (v := .int .i64 (i : Int)) rfl (by kernel_rfl) (by kernel_rfl) (by kernel_rfl) (fun _ _ _ h => h) (Or.inl ⟨by rfl, fun W hW => by clear hW; go_simp⟩) H0.out ?_
  try simp only [Act.put, List.getElem_toArray, List.getElem_cons_succ, List.getElem_cons_zero, List.setIfInBounds_toArray, List.set_cons_zero, List.set_cons_succ]
  refine wpAnyH_take (i := 1) (v := .pointer (some ⟨g, 0, none⟩)) rfl (by kernel_rfl) (by kernel_rfl) (by kernel_rfl) (fun _ _ _ h => h) (Or.inl ⟨by rfl, fun W hW => by clear hW; go_simp⟩) H0.out ?_
  try simp only [Act.put, List.getElem_toArray, List.getElem_cons_succ, List.getElem_cons_zero, List.setIfInBounds_toArray, List.set_cons_zero, List.set_cons_succ]
  refine wpAnyH_take (i := 2) (v := .pointer (some ⟨g, 0, none⟩)) rfl (by kernel_rfl) (by kernel_rfl) (by kernel_rfl) (fun _ _ _ h => h) (Or.inl ⟨by rfl, fun W hW => by clear hW; go_simp⟩) H0.out ?_
  try simp only [Act.put, List.getElem_toArray, List.getElem_cons_succ, List.getElem_cons_zero, List.setIfInBounds_toArray, List.set_cons_zero, List.set_cons_succ]
  refine wpAnyH_take (i := 3) (v := .pointer (some ⟨g, 0, none⟩)) rfl (by kernel_rfl) (by kernel_rfl) (by kernel_rfl) (fun _ _ _ h => h) (Or.inl ⟨by rfl, fun W hW => by clear hW; go_simp⟩) H0.out ?_
  try simp only [Act.put, List.getElem_toArray, List.getElem_cons_succ, List.getElem_cons_zero, List.setIfInBounds_toArray, List.set_cons_zero, List.set_cons_succ]
  refine wpAnyH_take (i := 4) (v := .int .i64 (n : Int)) rfl (by kernel_rfl) (by kernel_rfl) (by kernel_rfl) (fun _ _ _ h => h) (Or.inl ⟨by rfl, fun W hW => by have hc := (show W.cell? ⟨g, 0, none⟩ = some (.int .i64 (n : Int)) from hW); clear hW; go_simp⟩) H0.out ?_
  try simp only [Act.put, List.getElem_toArray, List.getElem_cons_succ, List.getElem_cons_zero, List.setIfInBounds_toArray, List.set_cons_zero, List.set_cons_succ]
  refine wpAnyH_take (i := 5) (v := .int .i64 (x1 : Int)) rfl (by kernel_rfl) (by kernel_rfl) (by kernel_rfl) (fun _ _ _ h => h) (Or.inl ⟨by rfl, fun W hW => exec_bin _ rfl rfl rfl (D1 W)⟩) H0.out ?_
  try simp only [Act.put, List.getElem_toArray, List.getElem_cons_succ, List.getElem_cons_zero, List.setIfInBounds_toArray, List.set_cons_zero, List.set_cons_succ]
  refine wpAnyH_take (i := 6) (v := .pointer (some ⟨g, 0, none⟩)) rfl (by kernel_rfl) (by kernel_rfl) (by kernel_rfl) (fun _ _ _ h => h) (Or.inl ⟨by rfl, fun W hW => by clear hW; go_simp⟩) H0.out ?_
  try simp only [Act.put, List.getElem_toArray, List.getElem_cons_succ, List.getElem_cons_zero, List.setIfInBounds_toArray, List.set_cons_zero, List.set_cons_succ]
  refine wpAnyH_take (i := 7) (v := .pointer (some ⟨g, 0, none⟩)) rfl (by kernel_rfl) (by kernel_rfl) (by kernel_rfl) (fun _ _ _ h => h) (Or.inl ⟨by rfl, fun W hW => by clear hW; go_simp⟩) H0.out ?_
  try simp only [Act.put, List.getElem_toArray, List.getElem_cons_succ, List.getElem_cons_zero, List.setIfInBounds_toArray, List.set_cons_zero, List.set_cons_succ]
  refine wpAnyH_take (i := 8) (v := .pointer (some ⟨g, 0, none⟩)) rfl (by kernel_rfl) (by kernel_rfl) (by kernel_rfl) (fun _ _ _ h => h) (Or.inl ⟨by rfl, fun W hW => by clear hW; go_simp⟩) H0.out ?_
  try simp only [Act.put, List.getElem_toArray, List.getElem_cons_succ, List.getElem_cons_zero, List.setIfInBounds_toArray, List.set_cons_zero, List.set_cons_succ]
  refine wpAnyH_take (i := 9) (v := .int .i64 (n : Int)) rfl (by kernel_rfl) (by kernel_rfl) (by kernel_rfl) (fun _ _ _ h => h) (Or.inl ⟨by rfl, fun W hW => by have hc := (show W.cell? ⟨g, 0, none⟩ = some (.int .i64 (n : Int)) from hW); clear hW; go_simp⟩) H0.out ?_
  try simp only [Act.put, List.getElem_toArray, List.getElem_cons_succ, List.getElem_cons_zero, List.setIfInBounds_toArray, List.set_cons_zero, List.set_cons_succ]
  refine wpAnyH_take (i := 10) (v := .int .i64 (x2 : Int)) rfl (by kernel_rfl) (by kernel_rfl) (by kernel_rfl) (fun _ _ _ h => h) (Or.inl ⟨by rfl, fun W hW => exec_bin _ rfl rfl rfl (D2 W)⟩) H0.out ?_
  try simp only [Act.put, List.getElem_toArray, List.getElem_cons_succ, List.getElem_cons_zero, List.setIfInBounds_toArray, List.set_cons_zero, List.set_cons_succ]
  refine wpAnyH_take (i := 11) (v := .int .i64 (i : Int)) rfl (by kernel_rfl) (by kernel_rfl) (by kernel_rfl) (fun _ _ _ h => h) (Or.inl ⟨by rfl, fun W hW => by clear hW; go_simp⟩) H0.out ?_
  try simp only [Act.put, List.getElem_toArray, List.getElem_cons_succ, List.getElem_cons_zero, List.setIfInBounds_toArray, List.set_cons_zero, List.set_cons_succ]
  refine wpAnyH_take (i := 12) (v := .pointer (some ⟨g, 0, none⟩)) rfl (by kernel_rfl) (by kernel_rfl) (by kernel_rfl) (fun _ _ _ h => h) (Or.inl ⟨by rfl, fun W hW => by clear hW; go_simp⟩) H0.out ?_
  try simp only [Act.put, List.getElem_toArray, List.getElem_cons_succ, List.getElem_cons_zero, List.setIfInBounds_toArray, List.set_cons_zero, List.set_cons_succ]
  refine wpAnyH_take (i := 13) (v := .pointer (some ⟨g, 0, none⟩)) rfl (by kernel_rfl) (by kernel_rfl) (by kernel_rfl) (fun _ _ _ h => h) (Or.inl ⟨by rfl, fun W hW => by clear hW; go_simp⟩) H0.out ?_
  try simp only [Act.put, List.getElem_toArray, List.getElem_cons_succ, List.getElem_cons_zero, List.setIfInBounds_toArray, List.set_cons_zero, List.set_cons_succ]
  refine wpAnyH_take (i := 14) (v := .pointer (some ⟨g, 0, none⟩)) rfl (by kernel_rfl) (by kernel_rfl) (by kernel_rfl) (fun _ _ _ h => h) (Or.inl ⟨by rfl, fun W hW => by clear hW; go_simp⟩) H0.out ?_
  try simp only [Act.put, List.getElem_toArray, List.getElem_cons_succ, List.getElem_cons_zero, List.setIfInBounds_toArray, List.set_cons_zero, List.set_cons_succ]
  refine wpAnyH_take (i := 15) (v := .int .i64 (n : Int)) rfl (by kernel_rfl) (by kernel_rfl) (by kernel_rfl) (fun _ _ _ h => h) (Or.inl ⟨by rfl, fun W hW => by have hc := (show W.cell? ⟨g, 0, none⟩ = some (.int .i64 (n : Int)) from hW); clear hW; go_simp⟩) H0.out ?_
  try simp only [Act.put, List.getElem_toArray, List.getElem_cons_succ, List.getElem_cons_zero, List.setIfInBounds_toArray, List.set_cons_zero, List.set_cons_succ]
  refine wpAnyH_take (i := 16) (v := .int .i64 (x1 : Int)) rfl (by kernel_rfl) (by kernel_rfl) (by kernel_rfl) (fun _ _ _ h => h) (Or.inl ⟨by rfl, fun W hW => exec_bin _ rfl rfl rfl (D1 W)⟩) H0.out ?_
  try simp only [Act.put, List.getElem_toArray, List.getElem_cons_succ, List.getElem_cons_zero, List.setIfInBounds_toArray, List.set_cons_zero, List.set_cons_succ]
  refine wpAnyH_take (i := 17) (v := .pointer (some ⟨g, 0, none⟩)) rfl (by kernel_rfl) (by kernel_rfl) (by kernel_rfl) (fun _ _ _ h => h) (Or.inl ⟨by rfl, fun W hW => by clear hW; go_simp⟩) H0.out ?_
  try simp only [Act.put, List.getElem_toArray, List.getElem_cons_succ, List.getElem_cons_zero, List.setIfInBounds_toArray, List.set_cons_zero, List.set_cons_succ]
  refine wpAnyH_take (i := 18) (v := .pointer (some ⟨g, 0, none⟩)) rfl (by kernel_rfl) (by kernel_rfl) (by kernel_rfl) (fun _ _ _ h => h) (Or.inl ⟨by rfl, fun W hW => by clear hW; go_simp⟩) H0.out ?_
  try simp only [Act.put, List.getElem_toArray, List.getElem_cons_succ, List.getElem_cons_zero, List.setIfInBounds_toArray, List.set_cons_zero, List.set_cons_succ]
  refine wpAnyH_take (i := 19) (v := .pointer (some ⟨g, 0, none⟩)) rfl (by kernel_rfl) (by kernel_rfl) (by kernel_rfl) (fun _ _ _ h => h) (Or.inl ⟨by rfl, fun W hW => by clear hW; go_simp⟩) H0.out ?_
  try simp only [Act.put, List.getElem_toArray, List.getElem_cons_succ, List.getElem_cons_zero, List.setIfInBounds_toArray, List.set_cons_zero, List.set_cons_succ]
  refine wpAnyH_take (i := 20) (v := .int .i64 (n : Int)) rfl (by kernel_rfl) (by kernel_rfl) (by kernel_rfl) (fun _ _ _ h => h) (Or.inl ⟨by rfl, fun W hW => by have hc := (show W.cell? ⟨g, 0, none⟩ = some (.int .i64 (n : Int)) from hW); clear hW; go_simp⟩) H0.out ?_
  try simp only [Act.put, List.getElem_toArray, List.getElem_cons_succ, List.getElem_cons_zero, List.setIfInBounds_toArray, List.set_cons_zero, List.set_cons_succ]
  refine wpAnyH_take (i := 21) (v := .int .i64 (y1 : Int)) rfl (by kernel_rfl) (by kernel_rfl) (by kernel_rfl) (fun _ _ _ h => h) (Or.inl ⟨by rfl, fun W hW => exec_bin _ rfl rfl rfl (D3 W)⟩) H0.out ?_
  try simp only [Act.put, List.getElem_toArray, List.getElem_cons_succ, List.getElem_cons_zero, List.setIfInBounds_toArray, List.set_cons_zero, List.set_cons_succ]
  refine wpAnyH_take (i := 22) (v := .int .i64 (i : Int)) rfl (by kernel_rfl) (by kernel_rfl) (by kernel_rfl) (fun _ _ _ h => h) (Or.inl ⟨by rfl, fun W hW => by clear hW; go_simp⟩) H0.out ?_
  try simp only [Act.put, List.getElem_toArray, List.getElem_cons_succ, List.getElem_cons_zero, List.setIfInBounds_toArray, List.set_cons_zero, List.set_cons_succ]
  refine wpAnyH_take (i := 23) (v := .pointer (some ⟨g, 0, none⟩)) rfl (by kernel_rfl) (by kernel_rfl) (by kernel_rfl) (fun _ _ _ h => h) (Or.inl ⟨by rfl, fun W hW => by clear hW; go_simp⟩) H0.out ?_
  try simp only [Act.put, List.getElem_toArray, List.getElem_cons_succ, List.getElem_cons_zero, List.setIfInBounds_toArray, List.set_cons_zero, List.set_cons_succ]
  refine wpAnyH_take (i := 24) (v := .pointer (some ⟨g, 0, none⟩)) rfl (by kernel_rfl) (by kernel_rfl) (by kernel_rfl) (fun _ _ _ h => h) (Or.inl ⟨by rfl, fun W hW => by clear hW; go_simp⟩) H0.out ?_
  try simp only [Act.put, List.getElem_toArray, List.getElem_cons_succ, List.getElem_cons_zero, List.setIfInBounds_toArray, List.set_cons_zero, List.set_cons_succ]
  refine wpAnyH_take (i := 25) (v := .pointer (some ⟨g, 0, none⟩)) rfl (by kernel_rfl) (by kernel_rfl) (by kernel_rfl) (fun _ _ _ h => h) (Or.inl ⟨by rfl, fun W hW => by clear hW; go_simp⟩) H0.out ?_
  try simp only [Act.put, List.getElem_toArray, List.getElem_cons_succ, List.getElem_cons_zero, List.setIfInBounds_toArray, List.set_cons_zero, List.set_cons_succ]
  refine wpAnyH_take (i := 26) (v := .int .i64 (n : Int)) rfl (by kernel_rfl) (by kernel_rfl) (by kernel_rfl) (fun _ _ _ h => h) (Or.inl ⟨by rfl, fun W hW => by have hc := (show W.cell? ⟨g, 0, none⟩ = some (.int .i64 (n : Int)) from hW); clear hW; go_simp⟩) H0.out ?_
  try simp only [Act.put, List.getElem_toArray, List.getElem_cons_succ, List.getElem_cons_zero, List.setIfInBounds_toArray, List.set_cons_zero, List.set_cons_succ]
  refine wpAnyH_take (i := 27) (v := .int .i64 (y0 : Int)) rfl (by kernel_rfl) (by kernel_rfl) (by kernel_rfl) (fun _ _ _ h => h) (Or.inl ⟨by rfl, fun W hW => exec_bin _ rfl rfl rfl (D4 W)⟩) H0.out ?_
  try simp only [Act.put, List.getElem_toArray, List.getElem_cons_succ, List.getElem_cons_zero, List.setIfInBounds_toArray, List.set_cons_zero, List.set_cons_succ]
  refine wpAnyH_take (i := 28) (v := .agg #[.int .i64 (x2 : Int), .int .i64 (y1 : Int), .int .i64 (y0 : Int)]) rfl (by kernel_rfl) (by kernel_rfl) (by kernel_rfl) (fun _ _ _ h => h) (Or.inl ⟨by rfl, fun W hW => by clear hW; go_simp⟩) H0.out ?_
  try simp only [Act.put, List.getElem_toArray, List.getElem_cons_succ, List.getElem_cons_zero, List.setIfInBounds_toArray, List.set_cons_zero, List.set_cons_succ]
  refine wpAnyH_ready (rs := [29]) (by kernel_rfl) (by simp) ?_
  refine AllReadyH.cons rfl (fun K hK => ?_) AllReadyH.nil
  rw [if_pos (by rfl)]
  refine wp_store_st (arr' := #[.int .i64 (x2 : Int), .int .i64 (y1 : Int), .int .i64 (y0 : Int)]) h2 0 rfl 51 (.tmp 4) (.tmp 33) rfl rfl rfl sz51 rfl (by simp [Value.oneCell']) ?_
  intro V3 h3
  have H3 := Lib.hid ((h3.bel.cell (p := ⟨g, 0, none⟩) hg.out).trans c0.out)
  clear h2
  refine hK.out _ _ H3.out (fun _ => ?_)
  clear hK K
  try simp only [Act.put, List.getElem_toArray, List.getElem_cons_succ, List.getElem_cons_zero, List.setIfInBounds_toArray, List.set_cons_zero, List.set_cons_succ]
  refine wpAnyH_done (by kernel_rfl) ?_ _
  go_wp2
  exact bodyPost_ret (results_one Try.results41 _ _ b4 rfl _ ((show At V3 b4 51 #[.int .i64 (x2 : Int), .int .i64 (y1 : Int), .int .i64 (y0 : Int)] from h3.get 0 rfl).loadV 51 _ Try.underlying51 rfl sz51)) rfl ⟨rfl, h3.bel⟩
/-- A link: its net, from where, to where. -/
structure Lk where
  a : Int
  b : Int
  d : Int
deriving DecidableEq
instance : Inhabited Lk := ⟨⟨0, 0, 0⟩⟩
def Lk.cs (l : Lk) : List Value := [.int .i64 l.a, .int .i64 l.b, .int .i64 l.d]
theorem info51z : ∃ i, Try.prog.info? 51 = some i ∧ i.zero = some (.agg #[.int .i64 0, .int .i64 0, .int .i64 0]) ∧ i.size = 3 ∧ i.bytes = 24 := by
  have h : (Try.prog.info? 51).map (fun i => (i.zero, i.size, i.bytes)) = some (some (.agg #[.int .i64 0, .int .i64 0, .int .i64 0]), 3, 24) := by kernel_rfl
  obtain ⟨i, hi, he⟩ := Option.map_eq_some_iff.1 h
  simp only [Prod.mk.injEq] at he
  exact ⟨i, hi, he.1, he.2.1, he.2.2⟩
instance : Elt Lk where
  ty := 51
  sl := 69
  sz := 3
  by_ := 24
  cs := Lk.cs
  zv := .agg #[.int .i64 0, .int .i64 0, .int .i64 0]
  len := fun _ => rfl
  one := fun l u hu => by
    simp only [Lk.cs, List.mem_cons, List.not_mem_nil, or_false] at hu
    rcases hu with rfl | rfl | rfl <;> rfl
  pos := by omega
  und := Try.underlying69
  inf := info51z
  zsz := rfl
  few := by omega
  low := by omega
def unl (n i : Nat) : Lk := ⟨((i / n / n : Nat) : Int), ((i / n % n : Nat) : Int), ((i % n : Nat) : Int)⟩
/-- The links below number k that have messages. -/
def lsTo (n : Nat) (c : Nat → List Msg) : Nat → List Lk
  | 0 => []
  | k + 1 => lsTo n c k ++ (if (c k).length = 0 then [] else [unl n k])
def sumTo (c : Nat → List Msg) : Nat → Nat
  | 0 => 0
  | k + 1 => sumTo c k + (c k).length
theorem sumTo_succ (c : Nat → List Msg) (k : Nat) : sumTo c (k + 1) = sumTo c k + (c k).length := rfl
theorem lsTo_succ (n : Nat) (c : Nat → List Msg) (k : Nat) : lsTo n c (k + 1) = lsTo n c k ++ (if (c k).length = 0 then [] else [unl n k]) := rfl
theorem lsTo_len (n : Nat) (c : Nat → List Msg) (k : Nat) : (lsTo n c k).length ≤ k := by
  induction k with
  | zero => simp [lsTo]
  | succ k ih => rw [lsTo, List.length_append]; split <;> simp <;> omega
theorem sumTo_le {c : Nat → List Msg} {R : Nat} : ∀ k, (∀ j, j < k → (c j).length ≤ R) → sumTo c k ≤ k * R := by
  intro k
  induction k with
  | zero => intro _; simp [sumTo]
  | succ k ih =>
    intro h
    have h1 := ih fun j hj => h j (by omega)
    have h2 := h k (by omega)
    rw [sumTo, Nat.add_mul, Nat.one_mul]; omega
section
variable {w W W' : World} {g q u n R : Nat} {ps : List Nat} {c : Nat → List Msg} {L M : Blks}
theorem NX.lenle (h : NX w W g q u n R ps c L) (i : Nat) (hi : i < lks n) : (c i).length ≤ R := by
  obtain ⟨p, hp⟩ := h.ptr hi
  obtain ⟨X, hq, _⟩ := h.queue i p hp
  exact hq.1
theorem NX.lenq (h : NX w W g q u n R ps c L) (i p : Nat) (hp : ps[i]? = some p) : Calls Try.prog 17 #[.pointer (some ⟨p, 0, none⟩)] W fun e W' => e = .returned (.int .i64 ((c i).length : Nat)) ∧ ∃ j, W' = W.drewN j := by
  obtain ⟨X, hq, _⟩ := h.queue i p hp
  exact len_any hq
end
section
variable {ops : Array Oper} {rest : List Oper} {o : Oper} {a : Act} {w W : World} {K : Act → World → Prop} {Q : Exit → Act → World → Prop} {L M : Blks} {g q u n R : Nat} {ps : List Nat} {c : Nat → List Msg} {α : Type} [E : Elt α]
theorem wpList_build1_nx (h : NX w W g q u n R ps c L) (x : Operand) (m : α) (ho : o.op = .buildSlice E.sl 1 #[(0, x)]) (hw : Region.wanted o (yielded ops a.tmps) = true) (hx : (a.eval x).cells = (E.cs m).toArray)
    (k : ∀ W', NX w W' g q u n R ps c ((W.heap.size, C E.ty (E.cs m).toArray) :: L) → wpList Try.prog ops Q rest (a.put o.dst (.slice (some ⟨W.heap.size, 0, none⟩) 1 1)) W') : wpList Try.prog ops Q (o :: rest) a W := by
  obtain ⟨Y, _, _, _, hs', up⟩ := h.lift
  exact wpList_build1_st hs' x m ho hw hx fun W' h' => k W' (up W' _ (h'.perm (List.perm_middle).symm))
theorem wpList_append_nx {v : Value} {xs : List α} {m : α} {nb : Nat} (h : NX w W g q u n R ps c ((nb, C E.ty (E.cs m).toArray) :: (M ++ L))) (hr : RL v xs M) (s x : Operand) (ho : o.op = .call { callee := .builtin .append, args := #[s, x], argTypes := #[E.sl, E.sl] }) (hw : Region.wanted o (yielded ops a.tmps) = true)
    (hsv : a.eval s = v) (hx : a.eval x = .slice (some ⟨nb, 0, none⟩) 1 1) (hl : xs.length ≤ 10000)
    (k : ∀ v' W' M', RL v' (xs ++ [m]) M' → NX w W' g q u n R ps c (M' ++ L) → wpList Try.prog ops Q rest (a.put o.dst v') W') : wpList Try.prog ops Q (o :: rest) a W := by
  obtain ⟨Y, _, _, _, hs', up⟩ := h.lift
  have p1 : (Y ++ ((nb, C E.ty (E.cs m).toArray) :: (M ++ L))).Perm ((nb, C E.ty (E.cs m).toArray) :: (M ++ (Y ++ L))) := (List.perm_middle).trans (List.Perm.cons _ (List.perm_append_comm_assoc Y M L))
  have h1 := hs'.perm p1
  have h2 : St w W (M ++ ((nb, C E.ty (E.cs m).toArray) :: (Y ++ L))) := h1.perm (List.perm_middle).symm
  refine wpList_append_rl (ys := [m]) hr h2 (new_row h1) s x ho hw hsv hx (by omega) fun v' W' M' hr' h3 => k v' W' M' hr' (up W' _ ?_)
  exact (h3.sub ((List.sublist_cons_self _ _).append_left M')).perm (List.perm_append_comm_assoc M' Y L)
end
attribute [local irreducible] Msg.arr bufM marr narr idx lks parr mixp lsTo sumTo
def LnRel (w : World) (g q u n R K : Nat) (ps : List Nat) (c : Nat → List Msg) (L : Blks) (s i : Value) (wr : World) : Prop :=
  ∃ k : Nat, k ≤ K ∧ i = .int .i64 (k : Nat) ∧ s = .int .i64 (sumTo c k : Nat) ∧ NX w wr g q u n R ps c L
set_option maxHeartbeats 1000000 in
theorem nlen_any {w W : World} {g q u n R : Nat} {ps : List Nat} {c : Nat → List Msg} {L : Blks} (h : NX w W g q u n R ps c L) :
    Calls Try.prog 33 #[.pointer (some ⟨g, 0, none⟩)] W fun e W' => e = .returned (.int .i64 (sumTo c (lks n) : Nat)) ∧ NX w W' g q u n R ps c L := by
  have hK := lks_le h.n16
  have hR4 := h.r4
  have LL := Lib.hid (fun i (hi : i < lks n) => h.lenle i hi)
  have PT := Lib.hid (fun i (hi : i < lks n) => h.ptr hi)
  have c1 := h.c1
  have SZ : Hid (sumTo c 0 = 0) := by unfold sumTo; exact rfl
  have SS : Hid (∀ k, sumTo c (k + 1) = sumTo c k + (c k).length) := fun k => sumTo_succ c k
  generalize lks n = KK at *
  go_enter Try.func33, Try.ntmps33
  go_wp2
  clear c1
  go_loopw [3, 11] (LnRel w g q u n R KK ps c L) (fun _ i _ => KK - (intOf i).toNat)
  case atStart => exact ⟨0, by omega, rfl, by rw [SZ.out]; rfl, h⟩
  case round =>
    obtain ⟨k, hk, rfl, rfl, h3⟩ := hrel
    clear h
    by_cases hlt : k < KK
    · have g1 : ((k : Int) < (KK : Int)) = True := eq_true (by omega)
      obtain ⟨p, hp⟩ := PT.out k hlt
      have cp := h3.cp k p hp
      have b1 : sumTo c k ≤ k * R := sumTo_le k fun j hj => LL.out j (by omega)
      have b2 : k * R ≤ 768 * 4096 := Nat.mul_le_mul (by omega) hR4
      have b3 := LL.out k hlt
      have e1 := SS.out k
      replace hp := Lib.hid hp
      generalize sumTo c k = s1 at *
      have LQ := Lib.hid (h3.lenq k p hp.out)
      generalize (c k).length = l at *
      have hs1 : s1 ≤ 768 * 4096 := by omega
      have hl1 : l ≤ 4096 := by omega
      have e1' : Hid (sumTo c (k + 1) = s1 + l) := e1
      clear b1 b2 b3 e1
      go_wp2_with (go_at_call 17; refine LQ.out.mono ?_; rintro e X1 ⟨rfl, j, rfl⟩)
      go_roundw
      case rel => exact ⟨k + 1, by omega, by go_num, by rw [e1'.out]; go_num, h3.drewN j⟩
      case measure => simp [intOf]; omega
    · obtain rfl : KK = k := by omega
      have g1 : ((KK : Int) < (KK : Int)) = False := eq_false (by omega)
      go_wp2
      go_ret
      exact ⟨rfl, h3⟩
def LsRel (w : World) (g q u n R K : Nat) (ps : List Nat) (c : Nat → List Msg) (L : Blks) (s i : Value) (wr : World) : Prop :=
  ∃ (k : Nat) (M : Blks), k ≤ K ∧ i = .int .i64 (k : Nat) ∧ RL s (lsTo n c k) M ∧ NX w wr g q u n R ps c (M ++ L)
set_option maxHeartbeats 2000000 in
theorem nlinks_any {w W : World} {g q u n R : Nat} {ps : List Nat} {c : Nat → List Msg} {L : Blks} (h : NX w W g q u n R ps c L) :
    Calls Try.prog 31 #[.pointer (some ⟨g, 0, none⟩)] W fun e W' => ∃ v M, e = .returned v ∧ RL v (lsTo n c (lks n)) M ∧ NX w W' g q u n R ps c (M ++ L) := by
  have hK := lks_le h.n16
  have PT := Lib.hid (fun i (hi : i < lks n) => h.ptr hi)
  have c1 := h.c1
  have SZ : Hid (lsTo n c 0 = []) := by unfold lsTo; exact rfl
  have SS : Hid (∀ k, lsTo n c (k + 1) = lsTo n c k ++ (if (c k).length = 0 then [] else [unl n k])) := fun k => lsTo_succ n c k
  have SL := Lib.hid (fun k => lsTo_len n c k)
  have NP : Hid (∀ k, k < lks n → 0 < n) := fun k hk => by
    rcases Nat.eq_zero_or_pos n with h0 | h0
    · exfalso; subst h0; unfold lks at hk; omega
    · exact h0
  generalize lks n = KK at *
  go_enter Try.func31, Try.ntmps31
  go_wp2
  clear c1
  go_loopw [3, 11] (LsRel w g q u n R KK ps c L) (fun _ i _ => KK - (intOf i).toNat)
  case atStart => exact ⟨0, [], by omega, rfl, by rw [SZ.out]; exact RL.nil_, h⟩
  case round =>
    obtain ⟨k, M, hk, rfl, hr, h3⟩ := hrel
    clear h
    by_cases hlt : k < KK
    · have g1 : ((k : Int) < (KK : Int)) = True := eq_true (by omega)
      obtain ⟨p, hp⟩ := PT.out k hlt
      have cp := h3.cp k p hp
      have LQ := Lib.hid (h3.lenq k p hp)
      have e1 := Lib.hid (SS.out k)
      replace hr := Lib.hid hr
      replace hp := Lib.hid hp
      by_cases hl : (c k).length = 0
      · have e2 : Hid (lsTo n c (k + 1) = lsTo n c k) := by rw [e1.out, if_pos hl, List.append_nil]; exact rfl
        rw [hl] at LQ
        clear e1
        go_wp2_with (go_at_call 17; refine LQ.out.mono ?_; rintro e X1 ⟨rfl, j, rfl⟩)
        go_roundw
        case rel => exact ⟨k + 1, M, by omega, by go_num, e2.out ▸ hr.out, h3.drewN j⟩
        case measure => simp [intOf]; omega
      · have e2 : Hid (lsTo n c (k + 1) = lsTo n c k ++ [unl n k]) := by rw [e1.out, if_neg hl]; exact rfl
        have LI := Lib.hid (fun W L (h : NX w W g q u n R ps c L) => link_any g n k (NP.out k hlt) (by omega) W h.c0 h.glt)
        have z2 : decide (0 < ((c k).length : Int)) = true := decide_eq_true (by omega)
        have z3 : (0 < (c k).length) = True := eq_true (by omega)
        have hu : Hid ((unl n k).cs = [.int .i64 ((k / n / n : Nat) : Int), .int .i64 ((k / n % n : Nat) : Int), .int .i64 ((k % n : Nat) : Int)]) := rfl
        generalize unl n k = U at *
        generalize k / n / n = x2 at *
        generalize k / n % n = y1 at *
        generalize k % n = y0 at *
        clear e1
        go_wp2_with (first
          | (have _ := h3; go_at_call 17; refine LQ.out.mono ?_; rintro e X1 ⟨rfl, j, rfl⟩; have h4 := h3.drewN j; clear h3)
          | (have _ := h4; go_at_call 41; refine (LI.out _ _ h4).mono ?_; rintro e X2 ⟨rfl, k2⟩; have h5 := h4.call k2; clear k2 h4)
          | (have _ := h5; refine wpList_build1_nx h5 (.tmp 22) U rfl rfl (by show (Value.agg _).cells = _; rw [show (Elt.cs U) = U.cs from rfl, hu.out]; rfl) ?_; clear h5; intro X3 h6)
          | (have _ := h6; refine wpList_append_nx h6 hr.out (.tmp 19) (.tmp 23) rfl rfl rfl rfl (by have := SL.out k; omega) ?_; clear h6; intro v' X4 M' hr' h7))
        go_roundw
        case rel => exact ⟨k + 1, M', by omega, by go_num, e2.out ▸ hr', h7⟩
        case measure => simp [intOf]; omega
    · obtain rfl : KK = k := by omega
      have g1 : ((KK : Int) < (KK : Int)) = False := eq_false (by omega)
      go_wp2
      go_ret
      exact ⟨_, M, rfl, hr, h3⟩
end Go.Proofs.Ytacjdeppigdbjaa
