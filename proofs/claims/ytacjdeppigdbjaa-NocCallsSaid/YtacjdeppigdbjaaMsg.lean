/- Messages: their cells, when two are one; rows of them. No statement is proved here. -/
import Derived.Test.YtacjdeppigdbjaaState
import Derived.Laws.StructEq
import Derived.Deep.MidRow
import Derived.DeepKeys
namespace Go.Proofs.Ytacjdeppigdbjaa
open Go.RowKit
set_option linter.unusedVariables false
set_option linter.unusedSimpArgs false

/-- Bytes as the values that cells hold. -/
def vals (xs : List Nat) : List Value := xs.map fun (x : Nat) => Value.int .u8 (x : Int)
theorem vals_length (xs : List Nat) : (vals xs).length = xs.length := by simp [vals]
theorem vals_getElem? (xs : List Nat) (j : Nat) (h : j < xs.length) : (vals xs)[j]? = some (.int .u8 ((xs.getD j 0 : Nat) : Int)) := by
  simp [vals, h]
theorem vals_one (xs : List Nat) : ∀ u ∈ vals xs, u.oneCell' = true := by
  intro u hu
  simp only [vals, List.mem_map] at hu
  obtain ⟨x, _, rfl⟩ := hu
  rfl
theorem vals_inj {xs ys : List Nat} (h : vals xs = vals ys) : xs = ys := by
  unfold vals at h
  refine List.map_inj_right (f := fun (x : Nat) => Value.int .u8 (x : Int)) (fun x y hxy => ?_) |>.1 h
  injection hxy with _ hxy
  omega
/-- A message: its kind, from where, to where, its line, whether it has bytes, whether they are dirty, its bytes. -/
structure Msg where
  ki : Int
  fr : Int
  to : Int
  li : Int
  ha : Bool
  di : Bool
  da : List Nat
  hl : da.length = 32
deriving DecidableEq
def Msg.cs (m : Msg) : List Value := [.int .i64 m.ki, .int .i64 m.fr, .int .i64 m.to, .int .i64 m.li, .bool m.ha, .bool m.di] ++ vals m.da
def Msg.arr (m : Msg) : Array Value := m.cs.toArray
def zmsg : Msg := ⟨0, 0, 0, 0, false, false, List.replicate 32 0, by simp⟩
/-- A message of that kind, and nothing else. -/
def kmsg (k f t : Int) : Msg := ⟨k, f, t, 0, false, false, List.replicate 32 0, by simp⟩
instance : Inhabited Msg := ⟨zmsg⟩
theorem Msg.cs_length (m : Msg) : m.cs.length = 38 := by simp [Msg.cs, vals_length, m.hl]
theorem Msg.arr_size (m : Msg) : m.arr.size = 38 := by simp [Msg.arr, m.cs_length]
theorem Msg.cs_one (m : Msg) : ∀ u ∈ m.cs, u.oneCell' = true := by
  intro u hu
  unfold Msg.cs at hu
  rcases List.mem_append.1 hu with hu | hu
  · simp only [List.mem_cons, List.not_mem_nil, or_false] at hu
    rcases hu with rfl | rfl | rfl | rfl | rfl | rfl <;> rfl
  · exact vals_one _ u hu
theorem Msg.arr_one (m : Msg) : m.arr.all (·.oneCell') = true := all_oneCell_toArray m.cs_one
theorem Msg.arr_inj {m m' : Msg} (h : m.arr = m'.arr) : m = m' := by
  have h2 : m.cs = m'.cs := by simpa [Msg.arr] using h
  obtain ⟨_, _, _, _, _, _, d, _⟩ := m
  obtain ⟨_, _, _, _, _, _, d', _⟩ := m'
  simp only [Msg.cs, List.cons_append, List.nil_append, List.cons.injEq, Value.int.injEq, Value.bool.injEq, true_and] at h2
  obtain ⟨rfl, rfl, rfl, rfl, rfl, rfl, h3⟩ := h2
  obtain rfl := vals_inj h3
  rfl
theorem Msg.at0 (m : Msg) : m.arr[0]? = some (.int .i64 m.ki) := by simp [Msg.arr, Msg.cs]
theorem Msg.at1 (m : Msg) : m.arr[1]? = some (.int .i64 m.fr) := by simp [Msg.arr, Msg.cs]
theorem Msg.at2 (m : Msg) : m.arr[2]? = some (.int .i64 m.to) := by simp [Msg.arr, Msg.cs]
theorem Msg.at3 (m : Msg) : m.arr[3]? = some (.int .i64 m.li) := by simp [Msg.arr, Msg.cs]
theorem Msg.at4 (m : Msg) : m.arr[4]? = some (.bool m.ha) := by simp [Msg.arr, Msg.cs]
theorem Msg.at5 (m : Msg) : m.arr[5]? = some (.bool m.di) := by simp [Msg.arr, Msg.cs]
theorem Msg.data_part (m : Msg) : m.arr.extract 6 38 = (vals m.da).toArray := by
  apply Array.ext'
  unfold Msg.arr Msg.cs
  rw [Array.toList_extract]
  simp only [List.extract]
  rw [List.drop_append, List.drop_eq_nil_of_le (by simp)]
  simp only [List.nil_append, List.length_cons, List.length_nil, Nat.reduceAdd, Nat.sub_self, List.drop_zero]
  rw [List.take_of_length_le (by rw [vals_length, m.hl]; omega)]
theorem sz31 : (Try.prog.info? 31).map (·.size) = some 38 := by kernel_rfl
theorem sz3' : (Try.prog.info? 3).map (·.size) = some 1 := by kernel_rfl
theorem built31 : Try.prog.built 31 [] = some zmsg.arr := by kernel_rfl
theorem built31k (k : Int) : Try.prog.built 31 [(0, .int .i64 k)] = some (kmsg k 0 0).arr := by kernel_rfl
theorem zero31 (W : World) : (zeroValue 31).run Try.prog W = .ok (.agg zmsg.arr) W := by kernel_rfl

/-! Two messages are compared. -/
theorem eqItems_bytes {P : Program} (w : World) (d : Nat) (e : TypeId) (he : P.underlying e = some (.int .u8)) (hc : P.cellsOf e = 1) (xs ys : List Nat) (hl : xs.length = ys.length) :
    ∀ is : List Nat, (∀ i ∈ is, i < xs.length) → (Op.eqItems (d + 1) e 1 (vals xs).toArray (vals ys).toArray is).run P w = .ok (is.all fun i => xs.getD i 0 == ys.getD i 0) w := by
  intro is
  induction is with
  | nil => intro _; simp [Op.eqItems]
  | cons i is ih =>
    intro h
    have hi : i < xs.length := h i (by simp)
    have px : ∀ zs : List Nat, i < zs.length → (part e (vals zs).toArray (i * 1)).run P w = .ok (.int .u8 (zs.getD i 0 : Nat)) w := fun zs hz => by
      simp only [part, isAgg, Sem.run_bind, run_underlying he, Result.andThen_ok, Nat.mul_one, List.getElem?_toArray, vals_getElem? zs i hz]
      simp
    have pe : (Op.equalIn (d + 1) e (.int .u8 (xs.getD i 0 : Nat)) (.int .u8 (ys.getD i 0 : Nat))).run P w = .ok (xs.getD i 0 == ys.getD i 0) w := by
      rw [run_equalIn_int w d e .u8 .u8 _ _ he]
      congr 1
      by_cases hq : xs.getD i 0 = ys.getD i 0
      · rw [hq]; simp
      · rw [show ((xs.getD i 0 == ys.getD i 0) = false) by simpa using hq]
        simp only [beq_eq_false_iff_ne, ne_eq]
        omega
    simp only [Op.eqItems, Sem.run_bind, px xs hi, px ys (by omega), pe, Result.andThen_ok, List.all_cons]
    cases hq : (xs.getD i 0 == ys.getD i 0)
    · simp
    · simpa using ih fun j hj => h j (by simp [hj])
theorem all_same (xs ys : List Nat) (hl : xs.length = ys.length) : ((List.range xs.length).all fun i => xs.getD i 0 == ys.getD i 0) = decide (xs = ys) := by
  rw [Bool.eq_iff_iff]
  simp only [List.all_eq_true, List.mem_range, beq_iff_eq, decide_eq_true_eq]
  constructor
  · intro h
    refine List.ext_getElem hl fun i hi hj => ?_
    have := h i hi
    simpa [List.getD_eq_getElem?_getD, hi, hj] using this
  · rintro rfl i hi; rfl
theorem cellsOf5 : Try.prog.cellsOf 5 = 1 := by kernel_rfl
theorem info5 : ∃ i, Try.prog.info? 5 = some i := info_of_underlying Try.underlying5
theorem eq29 (d : Nat) (m m' : Msg) (w : World) : (Op.equalIn (d + 2) 29 (.agg (vals m.da).toArray) (.agg (vals m'.da).toArray)).run Try.prog w = .ok (decide (m.da = m'.da)) w := by
  obtain ⟨i, hi⟩ := info5
  rw [run_equalIn_array w (d + 1) _ _ Try.underlying29 hi, cellsOf5]
  have h := eqItems_bytes (P := Try.prog) w d 5 Try.underlying5 cellsOf5 m.da m'.da (by rw [m.hl, m'.hl]) (List.range 32) (fun i hi => by rw [m.hl]; simpa using hi)
  rw [h]
  have := all_same m.da m'.da (by rw [m.hl, m'.hl])
  rw [m.hl] at this
  rw [this]
theorem eq31 (m m' : Msg) (w : World) : (Op.equalIn 10000 31 (.agg m.arr) (.agg m'.arr)).run Try.prog w = .ok (decide (m = m')) w := by
  rw [run_equalIn_struct w 9999 31 _ _ (by kernel_rfl) (by kernel_rfl)]
  have hf : (Try.prog.fieldsOf 31).toList.map (fun f => (f.name, f.type, f.offset)) = [("Kind", 3, 0), ("From", 3, 1), ("To", 3, 2), ("Line", 3, 3), ("Has", 4, 4), ("Dirty", 4, 5), ("Data", 29, 6)] := by kernel_rfl
  generalize (Try.prog.fieldsOf 31).toList = fs at hf
  have a1 := fun x y => run_equalIn_int (P := Try.prog) w 9998 3 .i64 .i64 x y Try.underlying3
  have a2 := fun x y => run_equalIn_bool' (P := Try.prog) w 9998 4 x y Try.underlying4
  have a3 := eq29 9997 m m' w
  simp only [Nat.reduceAdd] at a1 a2 a3
  have pi : ∀ (o : Nat) (n : Msg) (x : Int), n.arr[o]? = some (.int .i64 x) → (part 3 n.arr o).run Try.prog w = .ok (.int .i64 x) w := fun o n x h => by
    simp [part, isAgg, run_underlying Try.underlying3, h]
  have pb : ∀ (o : Nat) (n : Msg) (x : Bool), n.arr[o]? = some (.bool x) → (part 4 n.arr o).run Try.prog w = .ok (.bool x) w := fun o n x h => by
    simp [part, isAgg, run_underlying Try.underlying4, h]
  have pd : ∀ n : Msg, (part 29 n.arr 6).run Try.prog w = .ok (.agg (vals n.da).toArray) w := fun n => by
    have : (sizeOf 29).run Try.prog w = .ok 32 w := by kernel_rfl
    simp only [part, isAgg, Sem.run_bind, run_underlying Try.underlying29, Result.andThen_ok, this, Sem.run_pure, if_true, n.data_part]
  have hl : fs.length = 7 := by simpa using congrArg List.length hf
  match fs, hl, hf with
  | [f1, f2, f3, f4, f5, f6, f7], _, hf =>
    simp only [List.map_cons, List.map_nil, List.cons.injEq, Prod.mk.injEq, and_true] at hf
    obtain ⟨⟨n1, t1, o1⟩, ⟨n2, t2, o2⟩, ⟨n3, t3, o3⟩, ⟨n4, t4, o4⟩, ⟨n5, t5, o5⟩, ⟨n6, t6, o6⟩, n7, t7, o7⟩ := hf
    have step : ∀ (f : Field) (r : List Field) (u v : Value) (b c : Bool), f.name ≠ "_" → (part f.type m.arr f.offset).run Try.prog w = .ok u w → (part f.type m'.arr f.offset).run Try.prog w = .ok v w → (Op.equalIn 9999 f.type u v).run Try.prog w = .ok b w →
        (Op.eqFields 9999 m.arr m'.arr r).run Try.prog w = .ok c w → (Op.eqFields 9999 m.arr m'.arr (f :: r)).run Try.prog w = .ok (b && c) w := by
      intro f r u v b c h1 h2 h3 h4 h5
      simp only [Op.eqFields, if_pos h1, Sem.run_bind, h2, h3, h4, Result.andThen_ok]
      cases b
      · simp
      · simpa using h5
    have last : ∀ (f : Field) (u v : Value) (b : Bool), f.name ≠ "_" → (part f.type m.arr f.offset).run Try.prog w = .ok u w → (part f.type m'.arr f.offset).run Try.prog w = .ok v w → (Op.equalIn 9999 f.type u v).run Try.prog w = .ok b w →
        (Op.eqFields 9999 m.arr m'.arr [f]).run Try.prog w = .ok b w := by
      intro f u v b h1 h2 h3 h4
      have := step f [] u v b true h1 h2 h3 h4 (by simp [Op.eqFields])
      simpa using this
    have hs : decide (m = m') = ((m.ki == m'.ki) && ((m.fr == m'.fr) && ((m.to == m'.to) && ((m.li == m'.li) && ((m.ha == m'.ha) && ((m.di == m'.di) && decide (m.da = m'.da))))))) := by
      obtain ⟨_, _, _, _, _, _, d, _⟩ := m
      obtain ⟨_, _, _, _, _, _, d', _⟩ := m'
      rw [Bool.eq_iff_iff]
      simp only [decide_eq_true_eq, Msg.mk.injEq, Bool.and_eq_true, beq_iff_eq]
    rw [hs]
    refine step f1 _ _ _ _ _ (by rw [n1]; decide) (by rw [t1, o1]; exact pi 0 m _ m.at0) (by rw [t1, o1]; exact pi 0 m' _ m'.at0) (by rw [t1]; exact a1 _ _) ?_
    refine step f2 _ _ _ _ _ (by rw [n2]; decide) (by rw [t2, o2]; exact pi 1 m _ m.at1) (by rw [t2, o2]; exact pi 1 m' _ m'.at1) (by rw [t2]; exact a1 _ _) ?_
    refine step f3 _ _ _ _ _ (by rw [n3]; decide) (by rw [t3, o3]; exact pi 2 m _ m.at2) (by rw [t3, o3]; exact pi 2 m' _ m'.at2) (by rw [t3]; exact a1 _ _) ?_
    refine step f4 _ _ _ _ _ (by rw [n4]; decide) (by rw [t4, o4]; exact pi 3 m _ m.at3) (by rw [t4, o4]; exact pi 3 m' _ m'.at3) (by rw [t4]; exact a1 _ _) ?_
    refine step f5 _ _ _ _ _ (by rw [n5]; decide) (by rw [t5, o5]; exact pb 4 m _ m.at4) (by rw [t5, o5]; exact pb 4 m' _ m'.at4) (by rw [t5]; exact a2 _ _) ?_
    refine step f6 _ _ _ _ _ (by rw [n6]; decide) (by rw [t6, o6]; exact pb 5 m _ m.at5) (by rw [t6, o6]; exact pb 5 m' _ m'.at5) (by rw [t6]; exact a2 _ _) ?_
    exact last f7 _ _ _ (by rw [n7]; decide) (by rw [t7, o7]; exact pd m) (by rw [t7, o7]; exact pd m') (by rw [t7]; exact a3)
theorem eql_msg (m m' : Msg) (w : World) : (binOp .eql 31 (.agg m.arr) (.agg m'.arr)).run Try.prog w = .ok (.bool (decide (m = m'))) w := by
  rw [run_eql_struct, eq31 m m']; rfl
theorem neq_msg (m m' : Msg) (w : World) : (binOp .neq 31 (.agg m.arr) (.agg m'.arr)).run Try.prog w = .ok (.bool (!decide (m = m'))) w := by
  rw [run_neq_struct, eq31 m m']; rfl

/-! Rows of messages. -/
/-- The slice value reads, in the world w, as the messages xs, and lies below block B. -/
def MRow (w : World) (B : Nat) (A : Option Addr) (n c : Nat) (xs : List Msg) : Prop :=
  xs.length = n ∧ n ≤ c ∧ c ≤ maxLen ∧ (A = none → c = 0) ∧
    (∀ a, A = some a → 0 < n → a.spot = none ∧ a.block < B ∧ ∀ j m, xs[j]? = some m → w.rangeAt a.block (a.off + j * 38) m.cs)
theorem rangeAt_keep {w w' : World} {b o : Nat} {cs : List Value} (h : w.rangeAt b o cs) (hk : w'.heap[b]? = w.heap[b]?) : w'.rangeAt b o cs := fun j v hv => (World.cell?_of_block hk).trans (h j v hv)
section
variable {w w' : World} {B B' n c : Nat} {A : Option Addr} {xs : List Msg}
theorem MRow.len (h : MRow w B A n c xs) : xs.length = n := h.1
theorem MRow.max (h : MRow w B A n c xs) : n ≤ 9223372036854775807 := by have h1 := h.2.1; have h2 := h.2.2.1; unfold maxLen at h2; omega
theorem MRow.at_ (h : MRow w B A n c xs) (j : Nat) (m : Msg) (hj : xs[j]? = some m) : ∃ b off, A = some ⟨b, off, none⟩ ∧ b < B ∧ w.rangeAt b (off + j * 38) m.cs := by
  obtain ⟨h1, h2, h3, h4, h5⟩ := h
  have hj2 : j < xs.length := (List.getElem?_eq_some_iff.1 hj).1
  cases A with
  | none => have := h4 rfl; omega
  | some a =>
    obtain ⟨hs, hb, hc⟩ := h5 a rfl (by omega)
    obtain ⟨b, off, spot⟩ := a
    simp only at hs
    subst hs
    exact ⟨b, off, rfl, hb, hc j m hj⟩
theorem MRow.keep (h : MRow w B A n c xs) (hk : ∀ b, b < B → w'.heap[b]? = w.heap[b]?) : MRow w' B A n c xs := by
  obtain ⟨h1, h2, h3, h4, h5⟩ := h
  refine ⟨h1, h2, h3, h4, fun a ha hn => ?_⟩
  obtain ⟨hs, hb, hc⟩ := h5 a ha hn
  exact ⟨hs, hb, fun j m hj => rangeAt_keep (hc j m hj) (hk _ hb)⟩
theorem MRow.below (h : MRow w B A n c xs) (hb : Below B w w') : MRow w' B A n c xs := h.keep fun b hp => hb.block b hp
theorem MRow.wider (h : MRow w B A n c xs) (hB : B ≤ B') : MRow w B' A n c xs := by
  obtain ⟨h1, h2, h3, h4, h5⟩ := h
  refine ⟨h1, h2, h3, h4, fun a ha hn => ?_⟩
  obtain ⟨hs, hb, hc⟩ := h5 a ha hn
  exact ⟨hs, by omega, hc⟩
theorem MRow.nil_ (w : World) (B : Nat) : MRow w B none 0 0 [] := ⟨rfl, Nat.le_refl _, by unfold maxLen; omega, fun _ => rfl, fun a ha => by cases ha⟩
/-- Without the first ones. -/
theorem MRow.drop (k : Nat) (h : MRow w B A n c xs) (hk : k ≤ n) : MRow w B (A.map (fun a => ⟨a.block, a.off + k * 38, a.spot⟩)) (n - k) (c - k) (xs.drop k) := by
  obtain ⟨h1, h2, h3, h4, h5⟩ := h
  refine ⟨by simp [h1], by omega, by omega, fun ha => ?_, fun a ha hn => ?_⟩
  · cases A with
    | none => have := h4 rfl; omega
    | some a => cases ha
  · cases A with
    | none => cases ha
    | some a0 =>
      simp only [Option.map_some, Option.some.injEq] at ha
      subst ha
      obtain ⟨hs, hb, hc⟩ := h5 a0 rfl (by omega)
      refine ⟨hs, hb, fun j m hj => ?_⟩
      rw [List.getElem?_drop] at hj
      have := hc (k + j) m hj
      simp only
      rwa [show a0.off + k * 38 + j * 38 = a0.off + (k + j) * 38 by omega]
end
/-- The cells of messages, one behind the other. -/
def mcells (xs : List Msg) : List Value := xs.flatMap Msg.cs
theorem mcells_length (xs : List Msg) : (mcells xs).length = xs.length * 38 := by
  induction xs with
  | nil => rfl
  | cons m xs ih => simp only [mcells, List.flatMap_cons, List.length_append, List.length_cons] at ih ⊢; rw [ih, m.cs_length]; omega
theorem mcells_append (xs ys : List Msg) : mcells (xs ++ ys) = mcells xs ++ mcells ys := by simp [mcells]
theorem mcells_one (xs : List Msg) : ∀ u ∈ mcells xs, u.oneCell' = true := by
  intro u hu
  simp only [mcells, List.mem_flatMap] at hu
  obtain ⟨m, _, h⟩ := hu
  exact m.cs_one u h
theorem mcells_single (m : Msg) : mcells [m] = m.cs := by simp [mcells]
/-- The cells of the j-th one. -/
theorem mcells_at (xs : List Msg) : ∀ (j : Nat) (m : Msg), xs[j]? = some m → ∀ (i : Nat) (v : Value), m.cs[i]? = some v → (mcells xs)[j * 38 + i]? = some v := by
  induction xs with
  | nil => intro j m h; simp at h
  | cons x xs ih =>
    intro j m hj i v hi
    simp only [mcells, List.flatMap_cons]
    have hi2 : i < m.cs.length := (List.getElem?_eq_some_iff.1 hi).1
    rw [m.cs_length] at hi2
    cases j with
    | zero =>
      simp only [List.getElem?_cons_zero, Option.some.injEq] at hj
      subst hj
      rw [List.getElem?_append_left (by rw [x.cs_length]; omega)]
      simpa using hi
    | succ j =>
      rw [List.getElem?_append_right (by rw [x.cs_length]; omega), x.cs_length, show (j + 1) * 38 + i - 38 = j * 38 + i by omega]
      exact ih j m (by simpa using hj) i v hi
end Go.Proofs.Ytacjdeppigdbjaa
