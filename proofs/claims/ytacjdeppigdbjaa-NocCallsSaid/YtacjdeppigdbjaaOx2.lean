/- A net beside a map from its links to rows: what is done with them. No statement is proved here. -/
import Derived.Test.YtacjdeppigdbjaaOx
import Derived.Test.YtacjdeppigdbjaaOpenL
namespace Go.Proofs.Ytacjdeppigdbjaa
open Go.RowKit Go.ChangeShapes Go.MapKept Go.ChangeMaps
set_option linter.unusedVariables false
set_option linter.unusedSimpArgs false

theorem sumTo_upd (c : Nat → List Msg) (i : Nat) (xs : List Msg) : ∀ K, i < K → sumTo (upd c i xs) K + (c i).length = sumTo c K + xs.length := by
  have low : ∀ K, K ≤ i → sumTo (upd c i xs) K = sumTo c K := by
    intro K
    induction K with
    | zero => intro _; rfl
    | succ K ih =>
      intro h
      rw [sumTo_succ, sumTo_succ, ih (by omega)]
      have : upd c i xs K = c K := by unfold upd; rw [if_neg (by omega)]
      rw [this]
  intro K
  induction K with
  | zero => intro h; omega
  | succ K ih =>
    intro h
    rw [sumTo_succ, sumTo_succ]
    rcases Nat.lt_or_ge i K with h1 | h1
    · have := ih h1
      have e : upd c i xs K = c K := by unfold upd; rw [if_neg (by omega)]
      rw [e]; omega
    · obtain rfl : i = K := by omega
      rw [low i (Nat.le_refl _)]
      have e : upd c i xs i = xs := by unfold upd; rw [if_pos rfl]
      rw [e]; omega
section
variable {w W W' : World} {g q u nn R b N : Nat} {ps : List Nat} {cc rr : Nat → List Msg} {f : Lk → Value} {L M : Blks} {l : Lk} {st : Int} {v : Value} {xs : List Msg}
theorem osend_any (h : OX w W g q u nn R ps cc rr b N f L) (a : Int) (m : Msg) :
    Calls Try.prog 27 #[.pointer (some ⟨g, 0, none⟩), .int .i64 a, .agg m.arr] W fun e W' => ∃ ps', e = .returned (.int .i64 (sendK nn R cc a m)) ∧ OX w W' g q u nn R ps' (sendC nn R cc a m) rr b N f L := by
  obtain ⟨Z, h1, up⟩ := h.lift
  refine (nsend_any h1 a m).mono ?_
  rintro e W' ⟨ps', rfl, h2⟩
  exact ⟨ps', rfl, up _ _ _ _ h2⟩
theorem otake_no (h : OX w W g q u nn R ps cc rr b N f L) (hh : hasO nn l = false) :
    Calls Try.prog 24 #[.pointer (some ⟨g, 0, none⟩), .agg #[.int .i64 l.a, .int .i64 l.b, .int .i64 l.d]] W fun e W' => e = .returned (.tuple #[.agg zmsg.arr, .int .i64 2]) ∧ OX w W' g q u nn R ps cc rr b N f L := by
  obtain ⟨Z, h1, up⟩ := h.lift
  refine (ntake_no h1 l.a l.b l.d hh).mono ?_
  rintro e W' ⟨rfl, h2⟩
  exact ⟨rfl, up _ _ _ _ h2⟩
theorem otake_nil (h : OX w W g q u nn R ps cc rr b N f L) (hh : hasO nn l = true) (hc : cc (idxL nn l) = []) :
    Calls Try.prog 24 #[.pointer (some ⟨g, 0, none⟩), .agg #[.int .i64 l.a, .int .i64 l.b, .int .i64 l.d]] W fun e W' => e = .returned (.tuple #[.agg zmsg.arr, .int .i64 6]) ∧ OX w W' g q u nn R ps cc rr b N f L := by
  obtain ⟨Z, h1, up⟩ := h.lift
  obtain ⟨a, b', d, rfl, h3, h4, h5, e⟩ := has_nat hh
  rw [e] at hc
  refine (ntake_nil h1 a b' d h3 h4 h5 hc).mono ?_
  rintro e W' ⟨rfl, h2⟩
  exact ⟨rfl, up _ _ _ _ h2⟩
theorem otake_cons {x : Msg} (h : OX w W g q u nn R ps cc rr b N f L) (hh : hasO nn l = true) (hc : cc (idxL nn l) = x :: xs) :
    Calls Try.prog 24 #[.pointer (some ⟨g, 0, none⟩), .agg #[.int .i64 l.a, .int .i64 l.b, .int .i64 l.d]] W fun e W' => e = .returned (.tuple #[.agg x.arr, .int .i64 0]) ∧ OX w W' g q u nn R ps (upd cc (idxL nn l) xs) rr b N f L := by
  obtain ⟨Z, h1, up⟩ := h.lift
  obtain ⟨a, b', d, rfl, h3, h4, h5, e⟩ := has_nat hh
  rw [e] at hc ⊢
  refine (ntake_cons h1 a b' d h3 h4 h5 hc).mono ?_
  rintro e W' ⟨rfl, h2⟩
  exact ⟨rfl, up _ _ _ _ h2⟩
theorem olen_any (h : OX w W g q u nn R ps cc rr b N f L) :
    Calls Try.prog 33 #[.pointer (some ⟨g, 0, none⟩)] W fun e W' => e = .returned (.int .i64 (sumTo cc (lks nn) : Nat)) ∧ OX w W' g q u nn R ps cc rr b N f L := by
  obtain ⟨Z, h1, up⟩ := h.lift
  refine (nlen_any h1).mono ?_
  rintro e W' ⟨rfl, h2⟩
  exact ⟨rfl, up _ _ _ _ h2⟩
theorem OX.sum_le (h : OX w W g q u nn R ps cc rr b N f L) : sumTo cc (lks nn) ≤ 10000000 := by
  have h1 := sumTo_le (c := cc) (R := R) (lks nn) (fun j hj => h.nx.lenle j hj)
  have h2 := lks_le h.nx.n16
  have h3 := h.nx.r4
  have := Nat.mul_le_mul h2 h3
  omega
/-- The map is made. -/
theorem OX.made (h : NX w W g q u nn R ps cc L) (hc : ∀ i, cc i = []) : OX w (W.alloc (.map #[] 0)) g q u nn R ps cc cc W.heap.size 0 (fun _ => .slice none 0 0) L := by
  refine ⟨.map #[] 0, List.replicate (lks nn) [], ?_, MO.made, by simp, fun l hl => ⟨[], ?_, ?_⟩, fun l hl => rfl⟩
  · have e : (List.replicate (lks nn) ([] : Blks)).flatten = [] := by simp
    rw [e]
    exact (h.push (.map #[] 0)).perm (List.perm_append_singleton _ L).symm
  · rw [List.getElem?_replicate, if_pos (has_lt hl)]
  · rw [hc]; exact .nil_
variable {ops : Array Oper} {rest : List Oper} {o : Oper} {a : Act} {Q : Exit → Act → World → Prop} {K : Act → World → Prop}
theorem wpList_makeMap_ox (h : NX w W g q u nn R ps cc L) (hc : ∀ i, cc i = []) (hgd : o.guard = none) (ho : o.op = .makeMap 74 none)
    (k : ∀ W', OX w W' g q u nn R ps cc cc W.heap.size 0 (fun _ => .slice none 0 0) L → wpList Try.prog ops Q rest (a.put o.dst (.map (some W.heap.size))) W') : wpList Try.prog ops Q (o :: rest) a W := by
  refine wpList_plain hgd fun K' hK' => ?_
  unfold Oper.wp
  have hrun : (Instr.makeMap 74 none).run Try.prog W = .ok (.map (some W.heap.size)) (W.alloc (.map #[] 0)) := by
    simp [Instr.makeMap, run_underlying Try.underlying74]
  simp [execOp, ho, hrun, Result.andThen]
  exact hK' _ _ (k _ (OX.made h hc))
theorem wpList_alloc_ox (h : OX w W g q u nn R ps cc rr b N f L) (ty : TypeId) (ho : o.op = .alloc ty) (hw : Region.wanted o (yielded ops a.tmps) = true) (v : Value) (arr : Array Value) (hz : ∀ W, (zeroValue ty).run Try.prog W = .ok v W) (hx : v.cells = arr)
    (k : ∀ W', OX w W' g q u nn R ps cc rr b N f ((W.heap.size, C ty arr) :: L) → wpList Try.prog ops Q rest (a.put o.dst (.pointer (some ⟨W.heap.size, 0, none⟩))) W') : wpList Try.prog ops Q (o :: rest) a W := by
  obtain ⟨Z, h1, up⟩ := h.lift
  exact wpList_alloc_nx h1 ty ho hw v arr hz hx fun W' h2 => k W' (up _ _ _ _ h2)
theorem wpList_store_ox (h : OX w W g q u nn R ps cc rr b N f L) (i : Nat) {t : TypeId} {d : Nat} {arr arr' : Array Value} (hi : L[i]? = some (d, C t arr)) (ty : TypeId) (x y : Operand) (ho : o.op = .store ty x y) (hw : Region.wanted o (yielded ops a.tmps) = true)
    (hx : a.eval x = .pointer (some ⟨d, 0, none⟩)) (hy : a.eval y = .agg arr') (hs : (Try.prog.info? ty).map (·.size) = some arr'.size) (hl : arr'.size = arr.size) (h1 : arr'.all (·.oneCell') = true)
    (k : ∀ W', OX w W' g q u nn R ps cc rr b N f (L.set i (d, C t arr')) → wpList Try.prog ops Q rest (a.put o.dst undef) W') : wpList Try.prog ops Q (o :: rest) a W := by
  obtain ⟨Z, h2, up⟩ := h.lift
  have hlt := (List.getElem?_eq_some_iff.1 hi).1
  refine wpList_store_nx (arr' := arr') h2 i (by rw [List.getElem?_append_left hlt]; exact hi) ty x y ho hw hx hy hs hl h1 fun W' h3 => k W' (up _ _ _ _ ?_)
  rwa [List.set_append_left _ _ hlt] at h3
theorem wp_alloc_ox (h : OX w W g q u nn R ps cc rr b N f L) (ty : TypeId) (ho : o.op = .alloc ty) (v : Value) (arr : Array Value) (hz : ∀ W, (zeroValue ty).run Try.prog W = .ok v W) (hx : v.cells = arr)
    (k : ∀ W', OX w W' g q u nn R ps cc rr b N f ((W.heap.size, C ty arr) :: L) → K (a.put o.dst (.pointer (some ⟨W.heap.size, 0, none⟩))) W') : o.wp Try.prog a W K Q := by
  obtain ⟨Z, h1, up⟩ := h.lift
  unfold Oper.wp execOp
  simp only [ho, Instr.alloc, Sem.run_bind, hz, Result.andThen_ok]
  subst hx
  have h2 := k _ (up _ _ _ _ (h1.push (C ty v.cells)))
  go_simp
  exact h2
theorem wp_store_ox (h : OX w W g q u nn R ps cc rr b N f L) (i : Nat) {t : TypeId} {d : Nat} {arr arr' : Array Value} (hi : L[i]? = some (d, C t arr)) (ty : TypeId) (x y : Operand) (ho : o.op = .store ty x y)
    (hx : a.eval x = .pointer (some ⟨d, 0, none⟩)) (hy : a.eval y = .agg arr') (hs : (Try.prog.info? ty).map (·.size) = some arr'.size) (hl : arr'.size = arr.size) (h1 : arr'.all (·.oneCell') = true)
    (k : ∀ W', OX w W' g q u nn R ps cc rr b N f (L.set i (d, C t arr')) → K (a.put o.dst undef) W') : o.wp Try.prog a W K Q := by
  obtain ⟨Z, h2, up⟩ := h.lift
  have hlt := (List.getElem?_eq_some_iff.1 hi).1
  refine wp_store_nx (arr' := arr') h2 i (by rw [List.getElem?_append_left hlt]; exact hi) ty x y ho hx hy hs hl h1 fun W' h3 => k W' (up _ _ _ _ ?_)
  rwa [List.set_append_left _ _ hlt] at h3
theorem wpList_build1_ox (h : OX w W g q u nn R ps cc rr b N f L) (x : Operand) (m : Msg) (ho : o.op = .buildSlice 41 1 #[(0, x)]) (hw : Region.wanted o (yielded ops a.tmps) = true) (hx : a.eval x = .agg m.arr)
    (k : ∀ W', OX w W' g q u nn R ps cc rr b N f ((W.heap.size, C 31 m.arr) :: L) → wpList Try.prog ops Q rest (a.put o.dst (.slice (some ⟨W.heap.size, 0, none⟩) 1 1)) W') : wpList Try.prog ops Q (o :: rest) a W := by
  obtain ⟨Z, h2, up⟩ := h.lift
  exact wpList_build1_nx (α := Msg) h2 x m ho hw (by rw [hx]; rfl) fun W' h3 => k W' (up _ _ _ _ h3)
theorem wpList_entry_ox (h : OX w W g q u nn R ps cc rr b N f L) (hN : N ≤ 100000) (l : Lk) (hl : hasO nn l = true) (x y : Operand) (hgd : o.guard = none) (ho : o.op = .mapEntry 74 x y) (hx : a.eval x = .map (some b)) (hy : a.eval y = lkv l)
    (k : ∀ st W', OE w W' g q u nn R ps cc rr b N f L l st (f l) (rr (idxL nn l)) → wpList Try.prog ops Q rest (a.put o.dst (.tuple #[f l, goInt st])) W') : wpList Try.prog ops Q (o :: rest) a W := by
  refine wpList_plain hgd fun K' hK' => ?_
  obtain ⟨st, W', hrun, h2⟩ := h.entry hN hl
  unfold Oper.wp
  simp [execOp, ho, hx, hy, hrun, Result.andThen]
  exact hK' _ _ (k st W' h2)
theorem wpList_append_oe (h : OE w W g q u nn R ps cc rr b N f L l st v xs) (m : Msg) (d : Nat) (hm : (d, C 31 m.arr) ∈ L) (s x : Operand) (hgd : o.guard = none) (ho : o.op = .call { callee := .builtin .append, args := #[s, x], argTypes := #[41, 41] })
    (hsv : a.eval s = v) (hx : a.eval x = .slice (some ⟨d, 0, none⟩) 1 1) (hl : xs.length ≤ 10000)
    (k : ∀ v' W', OE w W' g q u nn R ps cc rr b N f L l st v' (xs ++ [m]) → wpList Try.prog ops Q rest (a.put o.dst v') W') : wpList Try.prog ops Q (o :: rest) a W := by
  refine wpList_plain hgd fun K' hK' => ?_
  have hA : At W d 31 m.arr := h.nx.st.at_ _ hm
  obtain ⟨v', W', hrun, h2⟩ := h.append m ⟨d, 0, none⟩ 1 (fun j u hu => by
    rw [Addr.add_lit, hA.cell, Nat.zero_add]
    simpa [Msg.arr] using hu) hl o.type
  unfold Oper.wp execOp
  simp only [ho, resolve, invoke, builtin, Sem.run_bind, Sem.run_pure, Result.andThen_ok, List.map_toArray, List.map_cons, List.map_nil, hsv, hx, hrun]
  exact hK' _ _ (k v' W' h2)
theorem wpList_estore_oe (h : OE w W g q u nn R ps cc rr b N f L l st v xs) (x y z : Operand) (hgd : o.guard = none) (ho : o.op = .entryStore 74 x y z) (hx : a.eval x = .map (some b)) (hy : a.eval y = goInt st) (hz : a.eval z = v)
    (k : ∀ W', OX w W' g q u nn R ps cc (upd rr (idxL nn l) xs) b (N + 1) (setF f l v) L → wpList Try.prog ops Q rest (a.put o.dst undef) W') : wpList Try.prog ops Q (o :: rest) a W := by
  refine wpList_plain hgd fun K' hK' => ?_
  obtain ⟨W', hrun, h2⟩ := h.store
  unfold Oper.wp
  simp [execOp, ho, hx, hy, hz, hrun, Result.andThen]
  exact hK' _ _ (k W' h2)
theorem wp_update_ox (h : OX w W g q u nn R ps cc rr b N f L) (l : Lk) (hl : hasO nn l = true) {A : Option Addr} {n c : Nat} (hv : f l = .slice A n c) (hn : 0 < n) (x y z : Operand) (ho : o.op = .mapUpdate 74 x y z) (hx : a.eval x = .map (some b)) (hy : a.eval y = lkv l) (hz : a.eval z = .slice (dropA A c 1 38) (n - 1) (c - 1))
    (k : ∀ W', OX w W' g q u nn R ps cc (upd rr (idxL nn l) ((rr (idxL nn l)).drop 1)) b (N + 1) (setF f l (.slice (dropA A c 1 38) (n - 1) (c - 1))) L → K (a.put o.dst undef) W') : o.wp Try.prog a W K Q := by
  obtain ⟨W', hrun, h2⟩ := h.update hl hv hn
  unfold Oper.wp
  simp [execOp, ho, hx, hy, hz, hrun, Result.andThen]
  exact k W' h2
end
/-! Numbers and links that come in. -/
theorem info3z : ∃ i, Try.prog.info? 3 = some i ∧ i.zero = some (.int .i64 0) ∧ i.size = 1 ∧ i.bytes = 8 := by
  have h : (Try.prog.info? 3).map (fun i => (i.zero, i.size, i.bytes)) = some (some (.int .i64 0), 1, 8) := by kernel_rfl
  obtain ⟨i, hi, he⟩ := Option.map_eq_some_iff.1 h
  simp only [Prod.mk.injEq] at he
  exact ⟨i, hi, he.1, he.2.1, he.2.2⟩
instance : Elt Int where
  ty := 3
  sl := 62
  sz := 1
  by_ := 8
  cs := fun z => [.int .i64 z]
  zv := .int .i64 0
  len := fun _ => rfl
  one := fun l u hu => by
    simp only [List.mem_cons, List.not_mem_nil, or_false] at hu
    subst hu; rfl
  pos := by omega
  und := Try.underlying62
  inf := info3z
  zsz := rfl
  few := by omega
  low := by omega
section
variable {H : Type} {enc : TypeId × Value → H} {W : World} {held : Bool}
theorem int_dec (fuel : Nat) (cs : List Value) (x : DataW H × List MemPlace) (h : DataW.trod enc Try.prog W 0 (fun _ => true) held fuel 3 cs = some x) : ∃ z : Int, True ∧ cs = Elt.cs z := by
  obtain ⟨z, q, -, w⟩ := DataW.trod_int Try.underlying3 h
  exact ⟨z, trivial, q⟩
theorem link_dec (fuel : Nat) (cs : List Value) (x : DataW H × List MemPlace) (h : DataW.trod enc Try.prog W 0 (fun _ => true) held fuel 51 cs = some x) : ∃ l : Lk, l.ok ∧ cs = Elt.cs l := by
  obtain ⟨ys, n2, _, _, hl, hy, hfs⟩ := DataW.trod_struct Try.underlying51 h
  rw [cellsK51] at hl
  have f0 := hfs 0 { name := "Net", type := 3, offset := 0, embedded := false, tag := "", pkgPath := "", byteOffset := 0 } rfl
  have f1 := hfs 1 { name := "From", type := 3, offset := 1, embedded := false, tag := "", pkgPath := "", byteOffset := 8 } rfl
  have f2 := hfs 2 { name := "To", type := 3, offset := 2, embedded := false, tag := "", pkgPath := "", byteOffset := 16 } rfl
  have hy : ys.length = 3 := hy
  rw [List.getElem?_eq_getElem (by omega)] at f0 f1 f2
  simp only [cellsOf3] at f0 f1 f2
  obtain ⟨z0, q0, -, w0⟩ := DataW.trod_int Try.underlying3 f0
  obtain ⟨z1, q1, -, w1⟩ := DataW.trod_int Try.underlying3 f1
  obtain ⟨z2, q2, -, w2⟩ := DataW.trod_int Try.underlying3 f2
  have c0 := one_at q0
  have c1 := one_at q1
  have c2 := one_at q2
  refine ⟨⟨z0, z1, z2⟩, ⟨w0, w1, w2⟩, ?_⟩
  refine List.ext_getElem? fun i => ?_
  rcases (show i = 0 ∨ i = 1 ∨ i = 2 ∨ 3 ≤ i by omega) with rfl | rfl | rfl | h1
  · rw [c0]; rfl
  · rw [c1]; rfl
  · rw [c2]; rfl
  · rw [List.getElem?_eq_none (by omega), List.getElem?_eq_none (by show 3 ≤ i; exact h1)]
theorem open_ints10 {A : Option Addr} {n c : Nat} {d : DataW H} {ps : List MemPlace} (hd : DataW.Trod enc Try.prog W 0 (fun _ => true) held 62 (.slice A n c) d ps) :
    ∃ xs : List Int, ERow W W.heap.size A n c xs ∧ ∀ x ∈ xs, True := open_rowE (α := Int) (fun _ => True) hd cellsOf3 int_dec
theorem open_links10 {A : Option Addr} {n c : Nat} {d : DataW H} {ps : List MemPlace} (hd : DataW.Trod enc Try.prog W 0 (fun _ => true) held 69 (.slice A n c) d ps) :
    ∃ xs : List Lk, ERow W W.heap.size A n c xs ∧ ∀ x ∈ xs, x.ok := open_rowE (α := Lk) Lk.ok hd cellsK51 link_dec
end
end Go.Proofs.Ytacjdeppigdbjaa
