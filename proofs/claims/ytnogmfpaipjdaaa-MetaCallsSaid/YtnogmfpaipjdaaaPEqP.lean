/- Two plans are compared. No statement is proved here. -/
import Derived.Test.YtnogmfpaipjdaaaPBound2
import Derived.Laws.StructEq
namespace Go.Proofs.Ytnogmfpaipjdaaa.P
open Go.RowKit
set_option linter.unusedVariables false
set_option linter.unusedSimpArgs false

theorem eq_same_bytes {P : Program} (w : World) (d : Nat) (t e : TypeId) (n : Nat) (ht : P.underlying t = some (.array n e)) (he : P.underlying e = some (.int .u8)) (hsz : ∀ w, (sizeOf e).run P w = .ok 1 w)
    (xs : Array Value) (hx : ∀ i, i < n → ∃ v, xs[i]? = some (.int .u8 v)) :
    (Op.equalIn (d + 2) t (.agg xs) (.agg xs)).run P w = .ok true w := by
  rw [Op.equalIn]
  simp only [Sem.run_bind, run_underlying ht, Result.andThen_ok, hsz, Std.Legacy.Range.forIn_eq_forIn_range', Std.Legacy.Range.size, Nat.sub_zero, Nat.add_sub_cancel, Nat.div_one]
  have hl : ∀ i ∈ List.range' 0 n 1, i < n := fun i hi => by simpa using (List.mem_range'_1.1 hi).2
  generalize List.range' 0 n 1 = l at hl ⊢
  induction l with
  | nil => simp
  | cons i l ih =>
    have hi : i < n := hl i (by simp)
    obtain ⟨v, hv⟩ := hx i hi
    have px : (part e xs (i * 1)).run P w = .ok (.int .u8 v) w := by
      simp [part, isAgg, run_underlying he, hv]
    have pe : (Op.equalIn (d + 1) e (.int .u8 v) (.int .u8 v)).run P w = .ok true w := by
      rw [run_equalIn_int w d e .u8 .u8 _ _ he]; simp
    simp only [List.forIn_cons, Sem.run_bind, px, pe, Result.andThen_ok]
    simp only [Bool.not_true, Bool.false_eq_true, if_false, Sem.run_pure, Result.andThen_ok]
    exact ih fun j hj => hl j (by simp [hj])

theorem Pl.near_part (p : Pl) : p.arr.extract 7 9 = #[.int .i64 p.ns, .int .i64 p.nw] := by
  unfold Pl.arr Pl.cs Pl.nums; simp [List.extract_toArray]
theorem Pl.far_part (p : Pl) : p.arr.extract 9 11 = #[.int .i64 p.fs, .int .i64 p.fw] := by
  unfold Pl.arr Pl.cs Pl.nums; simp [List.extract_toArray]
theorem Pl.key_at (p : Pl) (o i : Nat) (ho : 14 ≤ o) (hi : o + i < 46) (m : Nat) (hm : i < m) : ∃ v, (p.arr.extract o (o + m))[i]? = some (.int .u8 v) := by
  rw [Array.getElem?_extract, if_pos (by rw [p.arr_size]; omega)]
  unfold Pl.arr Pl.cs
  refine ⟨((p.ks.getD (o + i - 14) 0 : Nat) : Int), ?_⟩
  rw [List.getElem?_toArray, List.getElem?_append_right (by simp [Pl.nums]; omega)]
  have := p.hk
  simp only [vals, Pl.nums, List.length_cons, List.length_nil, List.getElem?_map, List.getD_eq_getElem?_getD]
  rw [List.getElem?_eq_getElem (by omega)]
  rfl
theorem Pl.key_same (p q : Pl) (h : p.ks = q.ks) (o m : Nat) (ho : 14 ≤ o) : p.arr.extract o (o + m) = q.arr.extract o (o + m) := by
  apply Array.ext'
  rw [Array.toList_extract, Array.toList_extract]
  unfold Pl.arr Pl.cs
  have e1 : ∀ r : Pl, List.drop o r.nums = [] := fun r => List.drop_eq_nil_of_le (by simp [Pl.nums]; omega)
  have e2 : ∀ r : Pl, r.nums.length = 14 := fun _ => rfl
  simp only [List.extract, List.drop_append, h, e1, e2]
theorem Pl.part_co (p : Pl) (w : World) : (part 3 p.arr 0).run Try.prog w = .ok (.int .i64 p.co) w := by
  simp [part, isAgg, run_underlying Try.underlying3, p.at0]
theorem Pl.part_ba (p : Pl) (w : World) : (part 3 p.arr 1).run Try.prog w = .ok (.int .i64 p.ba) w := by
  simp [part, isAgg, run_underlying Try.underlying3, p.at1]
theorem Pl.part_pa (p : Pl) (w : World) : (part 3 p.arr 2).run Try.prog w = .ok (.int .i64 p.pa) w := by
  simp [part, isAgg, run_underlying Try.underlying3, p.at2]
theorem Pl.part_li (p : Pl) (w : World) : (part 3 p.arr 3).run Try.prog w = .ok (.int .i64 p.li) w := by
  simp [part, isAgg, run_underlying Try.underlying3, p.at3]
theorem Pl.part_ar (p : Pl) (w : World) : (part 3 p.arr 4).run Try.prog w = .ok (.int .i64 p.ar) w := by
  simp [part, isAgg, run_underlying Try.underlying3, p.at4]
theorem Pl.part_mi (p : Pl) (w : World) : (part 3 p.arr 5).run Try.prog w = .ok (.int .i64 p.mi) w := by
  simp [part, isAgg, run_underlying Try.underlying3, p.at5]
theorem Pl.part_ma (p : Pl) (w : World) : (part 22 p.arr 6).run Try.prog w = .ok (.int .u64 p.ma) w := by
  simp [part, isAgg, run_underlying Try.underlying22, p.at6]
theorem Pl.part_me (p : Pl) (w : World) : (part 3 p.arr 11).run Try.prog w = .ok (.int .i64 p.me) w := by
  simp [part, isAgg, run_underlying Try.underlying3, p.at11]
theorem Pl.part_qu (p : Pl) (w : World) : (part 3 p.arr 12).run Try.prog w = .ok (.int .i64 p.qu) w := by
  simp [part, isAgg, run_underlying Try.underlying3, p.at12]
theorem Pl.part_ki (p : Pl) (w : World) : (part 3 p.arr 13).run Try.prog w = .ok (.int .i64 p.ki) w := by
  simp [part, isAgg, run_underlying Try.underlying3, p.at13]
theorem Pl.part_near (p : Pl) (w : World) : (part 24 p.arr 7).run Try.prog w = .ok (.agg #[.int .i64 p.ns, .int .i64 p.nw]) w := by
  have : (sizeOf 24).run Try.prog w = .ok 2 w := by kernel_rfl
  simp [part, isAgg, run_underlying Try.underlying24, this, p.near_part]
theorem Pl.part_far (p : Pl) (w : World) : (part 24 p.arr 9).run Try.prog w = .ok (.agg #[.int .i64 p.fs, .int .i64 p.fw]) w := by
  have : (sizeOf 24).run Try.prog w = .ok 2 w := by kernel_rfl
  simp [part, isAgg, run_underlying Try.underlying24, this, p.far_part]
theorem Pl.part_key (p : Pl) (w : World) (o : Nat) : (part 26 p.arr o).run Try.prog w = .ok (.agg (p.arr.extract o (o + 16))) w := by
  have : (sizeOf 26).run Try.prog w = .ok 16 w := by kernel_rfl
  simp [part, isAgg, run_underlying Try.underlying26, this]
theorem size5 : ∀ w, (sizeOf 5).run Try.prog w = .ok 1 w := fun w => by kernel_rfl
theorem eq24 (d : Nat) (a b c e : Int) (w : World) : (Op.equalIn (d + 2) 24 (.agg #[.int .i64 a, .int .i64 b]) (.agg #[.int .i64 c, .int .i64 e])).run Try.prog w = .ok (a == c && b == e) w := by
  rw [run_equalIn_struct w (d + 1) 24 _ _ (by kernel_rfl) (by kernel_rfl)]
  have hf : (Try.prog.fieldsOf 24).toList.map (fun f => (f.name, f.type, f.offset)) = [("Sets", 3, 0), ("Ways", 3, 1)] := by kernel_rfl
  generalize (Try.prog.fieldsOf 24).toList = fs at hf
  have hl : fs.length = 2 := by simpa using congrArg List.length hf
  match fs, hl, hf with
  | [f1, f2], _, hf =>
    simp only [List.map_cons, List.map_nil, List.cons.injEq, Prod.mk.injEq, and_true] at hf
    obtain ⟨⟨n1, t1, o1⟩, n2, t2, o2⟩ := hf
    have p1 : ∀ x y : Int, (part 3 #[.int .i64 x, .int .i64 y] 0).run Try.prog w = .ok (.int .i64 x) w := fun x y => by simp [part, isAgg, run_underlying Try.underlying3]
    have p2 : ∀ x y : Int, (part 3 #[.int .i64 x, .int .i64 y] 1).run Try.prog w = .ok (.int .i64 y) w := fun x y => by simp [part, isAgg, run_underlying Try.underlying3]
    cases h1 : (a == c) <;> cases h2 : (b == e) <;> simp [Op.eqFields, n1, n2, t1, t2, o1, o2, Sem.run_bind, p1, p2, run_equalIn_int w d 3 .i64 .i64 _ _ Try.underlying3, h1, h2]
def Pl.same (p q : Pl) : Bool := p.co == q.co && (p.ba == q.ba && (p.pa == q.pa && (p.li == q.li && (p.ar == q.ar && (p.mi == q.mi && (p.ma == q.ma && ((p.ns == q.ns && p.nw == q.nw) && ((p.fs == q.fs && p.fw == q.fw) && (p.me == q.me && (p.qu == q.qu && p.ki == q.ki))))))))))
theorem eq28 (p q : Pl) (hk : p.ks = q.ks) (w : World) : (Op.equalIn 10000 28 (.agg p.arr) (.agg q.arr)).run Try.prog w = .ok (p.same q) w := by
  rw [run_equalIn_struct w 9999 28 _ _ (by kernel_rfl) (by kernel_rfl)]
  have hf : (Try.prog.fieldsOf 28).toList.map (fun f => (f.name, f.type, f.offset)) = [("Cores", 3, 0), ("Banks", 3, 1), ("Pages", 3, 2), ("Lines", 3, 3), ("Arity", 3, 4), ("Minor", 3, 5), ("Major", 22, 6), ("Near", 24, 7), ("Far", 24, 9), ("Meta", 3, 11), ("Queue", 3, 12), ("Kind", 3, 13), ("Key", 26, 14), ("Tag", 26, 30)] := by kernel_rfl
  generalize (Try.prog.fieldsOf 28).toList = fs at hf
  have a1 := fun x y => run_equalIn_int (P := Try.prog) w 9998 3 .i64 .i64 x y Try.underlying3
  have a2 := fun x y => run_equalIn_int (P := Try.prog) w 9998 22 .u64 .u64 x y Try.underlying22
  have a3 := fun a b c d => eq24 9997 a b c d w
  have a4 := eq_same_bytes (P := Try.prog) w 9997 26 5 16 Try.underlying26 Try.underlying5 size5 (q.arr.extract 14 30) (fun i hi => q.key_at 14 i (by omega) (by omega) 16 hi)
  have a5 := eq_same_bytes (P := Try.prog) w 9997 26 5 16 Try.underlying26 Try.underlying5 size5 (q.arr.extract 30 46) (fun i hi => q.key_at 30 i (by omega) (by omega) 16 hi)
  have k1 := Pl.key_same p q hk 14 16 (by omega)
  have k2 := Pl.key_same p q hk 30 16 (by omega)
  simp only [Nat.reduceAdd] at a1 a2 a3 a4 a5 k1 k2
  have hl : fs.length = 14 := by simpa using congrArg List.length hf
  match fs, hl, hf with
  | [f1, f2, f3, f4, f5, f6, f7, f8, f9, f10, f11, f12, f13, f14], _, hf =>
    simp only [List.map_cons, List.map_nil, List.cons.injEq, Prod.mk.injEq, and_true] at hf
    obtain ⟨⟨n1, t1, o1⟩, ⟨n2, t2, o2⟩, ⟨n3, t3, o3⟩, ⟨n4, t4, o4⟩, ⟨n5, t5, o5⟩, ⟨n6, t6, o6⟩, ⟨n7, t7, o7⟩, ⟨n8, t8, o8⟩, ⟨n9, t9, o9⟩, ⟨n10, t10, o10⟩, ⟨n11, t11, o11⟩, ⟨n12, t12, o12⟩, ⟨n13, t13, o13⟩, n14, t14, o14⟩ := hf
    have step : ∀ (f : Field) (r : List Field) (u v : Value) (b c : Bool), f.name ≠ "_" → (part f.type p.arr f.offset).run Try.prog w = .ok u w → (part f.type q.arr f.offset).run Try.prog w = .ok v w → (Op.equalIn 9999 f.type u v).run Try.prog w = .ok b w →
        (Op.eqFields 9999 p.arr q.arr r).run Try.prog w = .ok c w → (Op.eqFields 9999 p.arr q.arr (f :: r)).run Try.prog w = .ok (b && c) w := by
      intro f r u v b c h1 h2 h3 h4 h5
      simp only [Op.eqFields, if_pos h1, Sem.run_bind, h2, h3, h4, Result.andThen_ok]
      cases b
      · simp
      · simpa using h5
    have last : ∀ (f : Field) (u v : Value) (b : Bool), f.name ≠ "_" → (part f.type p.arr f.offset).run Try.prog w = .ok u w → (part f.type q.arr f.offset).run Try.prog w = .ok v w → (Op.equalIn 9999 f.type u v).run Try.prog w = .ok b w →
        (Op.eqFields 9999 p.arr q.arr [f]).run Try.prog w = .ok b w := by
      intro f u v b h1 h2 h3 h4
      have := step f [] u v b true h1 h2 h3 h4 (by simp [Op.eqFields])
      simpa using this
    unfold Pl.same
    refine step f1 _ _ _ _ _ (by rw [n1]; decide) (by rw [t1, o1]; exact p.part_co w) (by rw [t1, o1]; exact q.part_co w) (by rw [t1]; exact a1 _ _) ?_
    refine step f2 _ _ _ _ _ (by rw [n2]; decide) (by rw [t2, o2]; exact p.part_ba w) (by rw [t2, o2]; exact q.part_ba w) (by rw [t2]; exact a1 _ _) ?_
    refine step f3 _ _ _ _ _ (by rw [n3]; decide) (by rw [t3, o3]; exact p.part_pa w) (by rw [t3, o3]; exact q.part_pa w) (by rw [t3]; exact a1 _ _) ?_
    refine step f4 _ _ _ _ _ (by rw [n4]; decide) (by rw [t4, o4]; exact p.part_li w) (by rw [t4, o4]; exact q.part_li w) (by rw [t4]; exact a1 _ _) ?_
    refine step f5 _ _ _ _ _ (by rw [n5]; decide) (by rw [t5, o5]; exact p.part_ar w) (by rw [t5, o5]; exact q.part_ar w) (by rw [t5]; exact a1 _ _) ?_
    refine step f6 _ _ _ _ _ (by rw [n6]; decide) (by rw [t6, o6]; exact p.part_mi w) (by rw [t6, o6]; exact q.part_mi w) (by rw [t6]; exact a1 _ _) ?_
    refine step f7 _ _ _ _ _ (by rw [n7]; decide) (by rw [t7, o7]; exact p.part_ma w) (by rw [t7, o7]; exact q.part_ma w) (by rw [t7]; exact a2 _ _) ?_
    refine step f8 _ _ _ _ _ (by rw [n8]; decide) (by rw [t8, o8]; exact p.part_near w) (by rw [t8, o8]; exact q.part_near w) (by rw [t8]; exact a3 _ _ _ _) ?_
    refine step f9 _ _ _ _ _ (by rw [n9]; decide) (by rw [t9, o9]; exact p.part_far w) (by rw [t9, o9]; exact q.part_far w) (by rw [t9]; exact a3 _ _ _ _) ?_
    refine step f10 _ _ _ _ _ (by rw [n10]; decide) (by rw [t10, o10]; exact p.part_me w) (by rw [t10, o10]; exact q.part_me w) (by rw [t10]; exact a1 _ _) ?_
    refine step f11 _ _ _ _ _ (by rw [n11]; decide) (by rw [t11, o11]; exact p.part_qu w) (by rw [t11, o11]; exact q.part_qu w) (by rw [t11]; exact a1 _ _) ?_
    rw [show (p.ki == q.ki) = ((p.ki == q.ki) && true) by simp]
    refine step f12 _ _ _ _ _ (by rw [n12]; decide) (by rw [t12, o12]; exact p.part_ki w) (by rw [t12, o12]; exact q.part_ki w) (by rw [t12]; exact a1 _ _) ?_
    rw [show true = (true && true) from rfl]
    refine step f13 _ _ _ _ _ (by rw [n13]; decide) (by rw [t13, o13]; exact p.part_key w 14) (by rw [t13, o13]; exact q.part_key w 14) (by rw [t13]; simp only [Nat.reduceAdd]; rw [k1]; exact a4) ?_
    exact last f14 _ _ _ (by rw [n14]; decide) (by rw [t14, o14]; exact p.part_key w 30) (by rw [t14, o14]; exact q.part_key w 30) (by rw [t14]; simp only [Nat.reduceAdd]; rw [k2]; exact a5)
theorem eql_plan (p q : Pl) (hk : p.ks = q.ks) (w : World) : (binOp .eql 28 (.agg p.arr) (.agg q.arr)).run Try.prog w = .ok (.bool (p.same q)) w := by
  rw [run_eql_struct, eq28 p q hk]; rfl
theorem neq_plan (p q : Pl) (hk : p.ks = q.ks) (w : World) : (binOp .neq 28 (.agg p.arr) (.agg q.arr)).run Try.prog w = .ok (.bool (!p.same q)) w := by
  rw [run_neq_struct, eq28 p q hk]; rfl
theorem Pl.same_iff (p q : Pl) (hk : p.ks = q.ks) : p.same q = true ↔ p = q := by
  obtain ⟨_, _, _, _, _, _, _, _, _, _, _, _, _, _, _, _⟩ := p
  obtain ⟨_, _, _, _, _, _, _, _, _, _, _, _, _, _, _, _⟩ := q
  simp only [Pl.same, Bool.and_eq_true, beq_iff_eq, Pl.mk.injEq]
  simp only at hk
  simp [hk, and_assoc]
end Go.Proofs.Ytnogmfpaipjdaaa.P
