/- Two items, two of what is cached, two lines are compared. No statement is proved here. -/
import Derived.Test.YtnogmfpaipjdaaaCd
namespace Go.Proofs.Ytnogmfpaipjdaaa
open Go.RowKit
open P (vals)
set_option linter.unusedVariables false
set_option linter.unusedSimpArgs false

theorem eqItems_bytes {P : Program} (w : World) (d : Nat) (e : TypeId) (he : P.underlying e = some (.int .u8)) (hc : P.cellsOf e = 1) (xs ys : List Nat) (hl : xs.length = ys.length) :
    ∀ is : List Nat, (∀ i ∈ is, i < xs.length) → (Op.eqItems (d + 1) e 1 (vals xs).toArray (vals ys).toArray is).run P w = .ok (is.all fun i => xs.getD i 0 == ys.getD i 0) w := by
  intro is
  induction is with
  | nil => intro _; simp [Op.eqItems]
  | cons i is ih =>
    intro h
    have hi : i < xs.length := h i (by simp)
    have px : ∀ zs : List Nat, i < zs.length → (part e (vals zs).toArray (i * 1)).run P w = .ok (.int .u8 (zs.getD i 0 : Nat)) w := fun zs hz => by
      simp only [part, isAgg, Sem.run_bind, run_underlying he, Result.andThen_ok, Nat.mul_one, List.getElem?_toArray, vals_getElem? zs i hz]
      simp
    have pe : (Op.equalIn (d + 1) e (.int .u8 (xs.getD i 0 : Nat)) (.int .u8 (ys.getD i 0 : Nat))).run P w = .ok (xs.getD i 0 == ys.getD i 0) w := by
      rw [run_equalIn_int w d e .u8 .u8 _ _ he]
      congr 1
      by_cases hq : xs.getD i 0 = ys.getD i 0
      · rw [hq]; simp
      · rw [show ((xs.getD i 0 == ys.getD i 0) = false) by simpa using hq]
        simp only [beq_eq_false_iff_ne, ne_eq]
        omega
    simp only [Op.eqItems, Sem.run_bind, px xs hi, px ys (by omega), pe, Result.andThen_ok, List.all_cons]
    cases hq : (xs.getD i 0 == ys.getD i 0)
    · simp
    · simpa using ih fun j hj => h j (by simp [hj])
theorem all_same (xs ys : List Nat) (hl : xs.length = ys.length) : ((List.range xs.length).all fun i => xs.getD i 0 == ys.getD i 0) = decide (xs = ys) := by
  rw [Bool.eq_iff_iff]
  simp only [List.all_eq_true, List.mem_range, beq_iff_eq, decide_eq_true_eq]
  constructor
  · intro h
    refine List.ext_getElem hl fun i hi hj => ?_
    have := h i hi
    simpa [List.getD_eq_getElem?_getD, hi, hj] using this
  · rintro rfl i hi; rfl
theorem cellsOf5 : Try.prog.cellsOf 5 = 1 := by kernel_rfl
theorem info5 : ∃ i, Try.prog.info? 5 = some i := info_of_underlying Try.underlying5
theorem eqI44 (d : Nat) (xs ys : List Nat) (h1 : xs.length = 32) (h2 : ys.length = 32) (w : World) : (Op.equalIn (d + 2) 44 (.agg (lnA xs)) (.agg (lnA ys))).run Try.prog w = .ok (decide (xs = ys)) w := by
  obtain ⟨i, hi⟩ := info5
  rw [run_equalIn_array w (d + 1) _ _ Try.underlying44 hi, cellsOf5]
  have h := eqItems_bytes (P := Try.prog) w d 5 Try.underlying5 cellsOf5 xs ys (by rw [h1, h2]) (List.range 32) (fun i hi => by rw [h1]; simpa using hi)
  unfold lnA
  rw [h]
  have := all_same xs ys (by rw [h1, h2])
  rw [h1] at this
  rw [this]
theorem eqI42 (d : Nat) (i j : It) (w : World) : (Op.equalIn (d + 2) 42 (.agg i.arr) (.agg j.arr)).run Try.prog w = .ok (decide (i = j)) w := by
  rw [run_equalIn_struct w (d + 1) 42 _ _ (by kernel_rfl) (by kernel_rfl)]
  have hf : (Try.prog.fieldsOf 42).toList.map (fun f => (f.name, f.type, f.offset)) = [("Level", 3, 0), ("Index", 3, 1)] := by kernel_rfl
  generalize (Try.prog.fieldsOf 42).toList = fs at hf
  have hl : fs.length = 2 := by simpa using congrArg List.length hf
  obtain ⟨a, b⟩ := i
  obtain ⟨c, e⟩ := j
  have hd : decide ((⟨a, b⟩ : It) = ⟨c, e⟩) = (a == c && b == e) := by
    rw [Bool.eq_iff_iff]
    simp only [decide_eq_true_eq, It.mk.injEq, Bool.and_eq_true, beq_iff_eq]
  rw [hd]
  unfold It.arr
  match fs, hl, hf with
  | [f1, f2], _, hf =>
    simp only [List.map_cons, List.map_nil, List.cons.injEq, Prod.mk.injEq, and_true] at hf
    obtain ⟨⟨n1, t1, o1⟩, n2, t2, o2⟩ := hf
    have p1 : ∀ x y : Int, (part 3 #[.int .i64 x, .int .i64 y] 0).run Try.prog w = .ok (.int .i64 x) w := fun x y => by simp [part, isAgg, run_underlying Try.underlying3]
    have p2 : ∀ x y : Int, (part 3 #[.int .i64 x, .int .i64 y] 1).run Try.prog w = .ok (.int .i64 y) w := fun x y => by simp [part, isAgg, run_underlying Try.underlying3]
    cases h1 : (a == c) <;> cases h2 : (b == e) <;> simp [Op.eqFields, n1, n2, t1, t2, o1, o2, Sem.run_bind, p1, p2, run_equalIn_int w d 3 .i64 .i64 _ _ Try.underlying3, h1, h2]
theorem eqI59 (m m' : Cd) (w : World) : (Op.equalIn 10000 59 (.agg m.arr) (.agg m'.arr)).run Try.prog w = .ok (decide (m = m')) w := by
  rw [run_equalIn_struct w 9999 59 _ _ (by kernel_rfl) (by kernel_rfl)]
  have hf : (Try.prog.fieldsOf 59).toList.map (fun f => (f.name, f.type, f.offset)) = [("Item", 42, 0), ("Bank", 3, 2), ("Bytes", 44, 3), ("Dirty", 4, 35)] := by kernel_rfl
  generalize (Try.prog.fieldsOf 59).toList = fs at hf
  have a1 := fun x y => run_equalIn_int (P := Try.prog) w 9998 3 .i64 .i64 x y Try.underlying3
  have a2 := fun x y => run_equalIn_bool' (P := Try.prog) w 9998 4 x y Try.underlying4
  have a3 := eqI44 9997 m.bs m'.bs m.hl m'.hl w
  have a4 := eqI42 9997 m.it m'.it w
  simp only [Nat.reduceAdd] at a1 a2 a3 a4
  have pi : ∀ (o : Nat) (n : Cd) (x : Int), n.arr[o]? = some (.int .i64 x) → (part 3 n.arr o).run Try.prog w = .ok (.int .i64 x) w := fun o n x h => by
    simp [part, isAgg, run_underlying Try.underlying3, h]
  have pb : ∀ (o : Nat) (n : Cd) (x : Bool), n.arr[o]? = some (.bool x) → (part 4 n.arr o).run Try.prog w = .ok (.bool x) w := fun o n x h => by
    simp [part, isAgg, run_underlying Try.underlying4, h]
  have pd : ∀ n : Cd, (part 44 n.arr 3).run Try.prog w = .ok (.agg (lnA n.bs)) w := fun n => by
    have : (sizeOf 44).run Try.prog w = .ok 32 w := by kernel_rfl
    simp only [part, isAgg, Sem.run_bind, run_underlying Try.underlying44, Result.andThen_ok, this, Sem.run_pure, if_true, n.line_part]
  have pt : ∀ n : Cd, (part 42 n.arr 0).run Try.prog w = .ok (.agg n.it.arr) w := fun n => by
    have : (sizeOf 42).run Try.prog w = .ok 2 w := by kernel_rfl
    simp only [part, isAgg, Sem.run_bind, run_underlying Try.underlying42, Result.andThen_ok, this, Sem.run_pure, if_true, n.item_part]
  have hl : fs.length = 4 := by simpa using congrArg List.length hf
  match fs, hl, hf with
  | [f1, f2, f3, f4], _, hf =>
    simp only [List.map_cons, List.map_nil, List.cons.injEq, Prod.mk.injEq, and_true] at hf
    obtain ⟨⟨n1, t1, o1⟩, ⟨n2, t2, o2⟩, ⟨n3, t3, o3⟩, n4, t4, o4⟩ := hf
    have step : ∀ (f : Field) (r : List Field) (u v : Value) (b c : Bool), f.name ≠ "_" → (part f.type m.arr f.offset).run Try.prog w = .ok u w → (part f.type m'.arr f.offset).run Try.prog w = .ok v w → (Op.equalIn 9999 f.type u v).run Try.prog w = .ok b w →
        (Op.eqFields 9999 m.arr m'.arr r).run Try.prog w = .ok c w → (Op.eqFields 9999 m.arr m'.arr (f :: r)).run Try.prog w = .ok (b && c) w := by
      intro f r u v b c h1 h2 h3 h4 h5
      simp only [Op.eqFields, if_pos h1, Sem.run_bind, h2, h3, h4, Result.andThen_ok]
      cases b
      · simp
      · simpa using h5
    have last : ∀ (f : Field) (u v : Value) (b : Bool), f.name ≠ "_" → (part f.type m.arr f.offset).run Try.prog w = .ok u w → (part f.type m'.arr f.offset).run Try.prog w = .ok v w → (Op.equalIn 9999 f.type u v).run Try.prog w = .ok b w →
        (Op.eqFields 9999 m.arr m'.arr [f]).run Try.prog w = .ok b w := by
      intro f u v b h1 h2 h3 h4
      have := step f [] u v b true h1 h2 h3 h4 (by simp [Op.eqFields])
      simpa using this
    have hs : decide (m = m') = (decide (m.it = m'.it) && ((m.bk == m'.bk) && (decide (m.bs = m'.bs) && (m.dt == m'.dt)))) := by
      obtain ⟨_, _, _, _, _⟩ := m
      obtain ⟨_, _, _, _, _⟩ := m'
      rw [Bool.eq_iff_iff]
      simp only [decide_eq_true_eq, Cd.mk.injEq, Bool.and_eq_true, beq_iff_eq]
    rw [hs]
    refine step f1 _ _ _ _ _ (by rw [n1]; decide) (by rw [t1, o1]; exact pt m) (by rw [t1, o1]; exact pt m') (by rw [t1]; exact a4) ?_
    refine step f2 _ _ _ _ _ (by rw [n2]; decide) (by rw [t2, o2]; exact pi 2 m _ m.at2) (by rw [t2, o2]; exact pi 2 m' _ m'.at2) (by rw [t2]; exact a1 _ _) ?_
    refine step f3 _ _ _ _ _ (by rw [n3]; decide) (by rw [t3, o3]; exact pd m) (by rw [t3, o3]; exact pd m') (by rw [t3]; exact a3) ?_
    exact last f4 _ _ _ (by rw [n4]; decide) (by rw [t4, o4]; exact pb 35 m _ m.at35) (by rw [t4, o4]; exact pb 35 m' _ m'.at35) (by rw [t4]; exact a2 _ _)
theorem neq_cd (m m' : Cd) (w : World) : (binOp .neq 59 (.agg m.arr) (.agg m'.arr)).run Try.prog w = .ok (.bool (!decide (m = m'))) w := by
  rw [run_neq_struct, eqI59 m m']; rfl
theorem eql_it (i j : It) (w : World) : (binOp .eql 42 (.agg i.arr) (.agg j.arr)).run Try.prog w = .ok (.bool (decide (i = j))) w := by
  rw [run_eql_struct, eqI42 9998 i j]; rfl
theorem neq_it (i j : It) (w : World) : (binOp .neq 42 (.agg i.arr) (.agg j.arr)).run Try.prog w = .ok (.bool (!decide (i = j))) w := by
  rw [run_neq_struct, eqI42 9998 i j]; rfl
theorem eql_ln (xs ys : List Nat) (h1 : xs.length = 32) (h2 : ys.length = 32) (w : World) : (binOp .eql 44 (.agg (lnA xs)) (.agg (lnA ys))).run Try.prog w = .ok (.bool (decide (xs = ys))) w := by
  rw [run_eql_struct, eqI44 9998 xs ys h1 h2]; rfl
end Go.Proofs.Ytnogmfpaipjdaaa
