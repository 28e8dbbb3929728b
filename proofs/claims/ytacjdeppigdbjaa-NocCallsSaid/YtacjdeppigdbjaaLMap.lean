/- A map from links to rows, of a call's own, as an object. No statement is proved here. -/
import Derived.Test.YtacjdeppigdbjaaNet8
import Derived.WideKeyEntry
import Derived.DeepKeys5
namespace Go.Proofs.Ytacjdeppigdbjaa
open Go.RowKit Go.ChangeShapes Go.MapKept Go.ChangeMaps Go.WideMaps
set_option linter.unusedVariables false
set_option linter.unusedSimpArgs false

def lkv (l : Lk) : Value := .agg #[.int .i64 l.a, .int .i64 l.b, .int .i64 l.d]
theorem lkv_inj {l o : Lk} (h : lkv l = lkv o) : l = o := by
  cases l; cases o
  simp only [lkv, Value.agg.injEq] at h
  have := congrArg Array.toList h
  simp at this
  obtain ⟨rfl, rfl, rfl⟩ := this
  rfl
def Lk.ok (l : Lk) : Prop := (Lit.int .i64 l.a).wf = true ∧ (Lit.int .i64 l.b).wf = true ∧ (Lit.int .i64 l.d).wf = true
theorem laid6 : laidOutB Try.prog = true := by kernel_rfl
theorem law51 : KeyLaw Try.prog 51 := deep_law_laid laid6 (m := 2) (by omega) (of_decide_eq_true (by kernel_rfl)) (by kernel_rfl) (by kernel_rfl)
theorem key51 : Try.prog.keyType 51 = true := by kernel_rfl
theorem cellsK51 : Try.prog.cellsOf 51 = 3 := by kernel_rfl
theorem cellsK3 : Try.prog.cellsOf 3 = 1 := by kernel_rfl
theorem size_types : ∃ m, Try.prog.types.size = m + 1 := ⟨Try.prog.types.size - 1, by have : 0 < Try.prog.types.size := of_decide_eq_true (by kernel_rfl); omega⟩
theorem keyLits3 {d : Nat} {n : Int} (h : (Lit.int .i64 n).wf = true) : Try.prog.keyLits (d + 1) 3 [.int .i64 n] = some [.int .i64 n] := by
  simp [Program.keyLits, Try.underlying3, h]
theorem key_link {l : Lk} (h : l.ok) : ∃ s, keyOf Try.prog 51 (lkv l) = some s := by
  obtain ⟨h1, h2, h3⟩ := h
  obtain ⟨m, hm⟩ := size_types
  have hm2 : 0 < m := by have : 2 < Try.prog.types.size := of_decide_eq_true (by kernel_rfl); omega
  obtain ⟨m, rfl⟩ : ∃ k, m = k + 1 := ⟨m - 1, by omega⟩
  unfold keyOf
  simp only [Try.underlying51]
  rw [if_pos (by simp [key51, Value.formed, lkv, Try.underlying51, cellsK51]), hm]
  unfold Program.keyLits
  simp only [Try.underlying51, Value.cells, lkv]
  rw [if_pos (by rw [cellsK51]; exact ⟨rfl, by decide +kernel⟩)]
  simp [List.mapM_cons, cellsK3, keyLits3 h1, keyLits3 h2, keyLits3 h3]

abbrev lget (es : List MapEntry) (l : Lk) (v : Value) : Prop := (∃ x ∈ es, x.key = lkv l ∧ x.val = v) ∨ ((∀ x ∈ es, x.key ≠ lkv l) ∧ v = .slice none 0 0)
/-- The object is a map from links; at the link l it has f l. -/
def MO (o : Obj) (f : Lk → Value) (n : Nat) : Prop :=
  ∃ es clock, o = .map es clock ∧ Stamped es clock ∧ es.size ≤ n ∧ (∀ x ∈ es.toList, ∃ s, keyOf Try.prog 51 x.key = some s) ∧ ∀ l : Lk, l.ok → lget es.toList l (f l)
def setF (f : Lk → Value) (l : Lk) (v : Value) : Lk → Value := fun o => if o = l then v else f o
theorem MO.made : MO (.map #[] 0) (fun _ => .slice none 0 0) 0 := ⟨#[], 0, rfl, stamped_empty 0, by simp, by simp, fun l _ => .inr ⟨by simp, rfl⟩⟩
theorem zero41 (w : World) : (zeroValue 41).run Try.prog w = .ok (.slice none 0 0) w := by kernel_rfl
section
variable {W : World} {b n : Nat} {o : Obj} {f : Lk → Value}
theorem get_uniq {es : Array MapEntry} {clock : Nat} (hs : Stamped es clock) {j : Nat} {e0 x : MapEntry} (h2 : es.toList[j]? = some e0) (hx : x ∈ es.toList) (hk : x.key = e0.key) : x = e0 := by
  obtain ⟨i, hi, ex⟩ := List.getElem_of_mem hx
  have hn := ((stamped_iff es clock).1 hs).2.2
  obtain ⟨hj, ej⟩ := List.getElem?_eq_some_iff.1 h2
  rcases Nat.lt_trichotomy i j with h | h | h
  · exact absurd (by rw [ex, ej]; exact hk) (List.pairwise_iff_getElem.1 hn i j hi hj h)
  · subst h; rw [← ex, ← ej]
  · exact absurd (by rw [ex, ej]; exact hk.symm) (List.pairwise_iff_getElem.1 hn j i hj hi h)
theorem MO.look (h : MO o f n) (hb : W.heap[b]? = some o) {l : Lk} (hl : l.ok) : (Instr.lookup 74 (.map (some b)) (lkv l) false).run Try.prog W = .ok (f l) W := by
  obtain ⟨es, clock, rfl, hs, hn, hk, hg⟩ := h
  obtain ⟨s, hkey⟩ := key_link hl
  rcases law51.find W hkey es.toList hk with ⟨h1, h2⟩ | ⟨j, e0, h1, h2, h3⟩
  · have hv : f l = .slice none 0 0 := by
      rcases hg l hl with ⟨x, hx, hxk, _⟩ | ⟨_, e⟩
      · exact absurd hxk (h2 x hx)
      · exact e
    rw [hv]
    simp [Instr.lookup, run_underlying Try.underlying74, MapKept.run_getObj_map hb, law51.check W _ hkey, h1, zero41, Result.andThen]
  · have hv : f l = e0.val := by
      rcases hg l hl with ⟨x, hx, hxk, e⟩ | ⟨hno, _⟩
      · rw [← e, get_uniq hs h2 hx (hxk.trans h3.symm)]
      · exact absurd h3 (hno e0 (List.mem_of_getElem? h2))
    rw [hv]
    simp [Instr.lookup, run_underlying Try.underlying74, MapKept.run_getObj_map hb, law51.check W _ hkey, h1, Result.andThen]
/-- An entry is taken, and written back: as an update does. -/
theorem MO.update (h : MO o f n) (hb : W.heap[b]? = some o) {l : Lk} (hl : l.ok) (v : Value) :
    ∃ o', (Instr.mapUpdate 74 (.map (some b)) (lkv l) v).run Try.prog W = .ok () (setBlock W b o') ∧ MO o' (setF f l v) (n + 1) := by
  obtain ⟨es, clock, rfl, hs, hn, hk, hg⟩ := h
  obtain ⟨s, hkey⟩ := key_link hl
  rcases law51.find W hkey es.toList hk with ⟨h1, h2⟩ | ⟨j, e0, h1, h2, h3⟩
  · refine ⟨.map (es.push ⟨lkv l, v, clock⟩) (clock + 1), ?_, ⟨_, _, rfl, stamped_push hs h2, by simp; omega, ?_, fun o ho => ?_⟩⟩
    · simp [Instr.mapUpdate, run_underlying Try.underlying74, MapKept.run_getObj_map hb, law51.check W false hkey, h1, MapKept.run_setObj_map _ hb, Result.andThen, setBlock]
    · intro x hx
      simp only [Array.toList_push, List.mem_append, List.mem_singleton] at hx
      rcases hx with hx | rfl
      · exact hk x hx
      · exact ⟨_, hkey⟩
    · unfold setF
      by_cases e : o = l
      · subst e
        rw [if_pos rfl]
        exact .inl ⟨⟨lkv o, v, clock⟩, by simp, rfl, rfl⟩
      · rw [if_neg e]
        rcases hg o ho with ⟨x, hx, hxk, q⟩ | ⟨hno, q⟩
        · exact .inl ⟨x, by simp only [Array.toList_push, List.mem_append]; exact .inl hx, hxk, q⟩
        · refine .inr ⟨fun x hx => ?_, q⟩
          simp only [Array.toList_push, List.mem_append, List.mem_singleton] at hx
          rcases hx with hx | rfl
          · exact hno x hx
          · exact fun hc => e (lkv_inj hc).symm
  · have hj : es[j]? = some e0 := by simpa using h2
    have hkeyf : ∀ e' ∈ es.toList, es[j]? = some e' → ({ e' with key := lkv l, val := v } : MapEntry).key = e'.key := fun e' _ he' => by rw [hj] at he'; cases he'; exact h3.symm
    have hlist : (es.modify j (fun e' => { e' with key := lkv l, val := v })).toList = es.toList.set j { e0 with key := lkv l, val := v } := by rw [Array.toList_modify, modify_eq_set _ _ _ _ h2]
    have hjl : j < es.toList.length := (List.getElem?_eq_some_iff.1 h2).1
    have who : ∀ x ∈ es.toList.set j { e0 with key := lkv l, val := v }, x = { e0 with key := lkv l, val := v } ∨ x ∈ es.toList := fun x hx => (List.mem_or_eq_of_mem_set hx).symm
    refine ⟨.map (es.modify j (fun e' => { e' with key := lkv l, val := v })) clock, ?_, ⟨_, _, rfl, stamped_modify hs _ _ (fun _ _ => rfl) hkeyf, by simpa using Nat.le_succ_of_le hn, ?_, fun o ho => ?_⟩⟩
    · simp [Instr.mapUpdate, run_underlying Try.underlying74, MapKept.run_getObj_map hb, law51.check W false hkey, h1, hj, h3, law51.stays W hkey, MapKept.run_setObj_map _ hb, Result.andThen, setBlock]
    · intro x hx
      rw [hlist] at hx
      rcases who x hx with rfl | hx
      · exact ⟨_, hkey⟩
      · exact hk x hx
    · rw [hlist]
      unfold setF
      by_cases e : o = l
      · subst e
        rw [if_pos rfl]
        exact .inl ⟨{ e0 with key := lkv o, val := v }, List.mem_iff_getElem.2 ⟨j, by simpa using hjl, by simp⟩, rfl, rfl⟩
      · rw [if_neg e]
        rcases hg o ho with ⟨x, hx, hxk, q⟩ | ⟨hno, q⟩
        · refine .inl ⟨x, ?_, hxk, q⟩
          obtain ⟨i, hi, ex⟩ := List.getElem_of_mem hx
          have hne : j ≠ i := fun h => by
            subst h
            have : x = e0 := by rw [← ex]; exact (List.getElem?_eq_some_iff.1 h2).2
            rw [this, h3] at hxk
            exact e (lkv_inj hxk).symm
          exact List.mem_iff_getElem.2 ⟨i, by simpa using hi, by rw [List.getElem_set_ne hne]; exact ex⟩
        · refine .inr ⟨fun x hx => ?_, q⟩
          rcases who x hx with rfl | hx
          · exact fun hc => e (lkv_inj hc).symm
          · exact hno x hx
theorem MO.entry (h : MO o f n) (hn6 : n ≤ 100000) (hb : W.heap[b]? = some o) {l : Lk} (hl : l.ok) :
    ∃ st o1, (Instr.mapEntry 74 (.map (some b)) (lkv l)).run Try.prog W = .ok (.tuple #[f l, goInt st]) (setBlock W b o1) ∧
      ∀ W2 v, W2.heap[b]? = some o1 → ∃ o2, (Instr.entryStore 74 (.map (some b)) (goInt st) v).run Try.prog W2 = .ok () (setBlock W2 b o2) ∧ MO o2 (setF f l v) (n + 1) := by
  have hu := fun v => h.update hb hl v
  have hlk := h.look hb hl
  obtain ⟨es, clock, rfl, hs, hn, hk, hg⟩ := h
  obtain ⟨s, hkey⟩ := key_link hl
  have F : WideElems.Fit (H := Unit) Try.prog 51 (fun _ => some (.nil, [])) es clock := ⟨by unfold maxLen; omega, hs, fun x hx => by
    obtain ⟨s, e⟩ := hk x hx
    exact ⟨_, WideElems.rd_mk (key := x.key) (val := x.val) (born := x.born) e rfl⟩⟩
  obtain ⟨v0, st, es1, clock1, h1, h2, h3⟩ := WideElems.entry_then_store (H := Unit) law51 Try.underlying74 zero41 hb F hkey
  have hv : v0 = f l := by
    rcases h2 with ⟨e0, h0, k0, rfl⟩ | ⟨hno, rfl⟩
    · rcases hg l hl with ⟨x, hx, hxk, e⟩ | ⟨hno, _⟩
      · obtain ⟨j, hj, ej⟩ := List.getElem_of_mem h0
        rw [← e, get_uniq hs (by rw [List.getElem?_eq_getElem hj, ej]) hx (hxk.trans k0.symm)]
      · exact absurd k0 (hno e0 h0)
    · rcases hg l hl with ⟨x, hx, hxk, e⟩ | ⟨_, e⟩
      · exact absurd hxk (hno x hx)
      · exact e.symm
  subst hv
  refine ⟨st, .map es1 clock1, h1, fun W2 v hW => ?_⟩
  obtain ⟨es', clock', g1, g2⟩ := h3 W2 v hW
  obtain ⟨o', g3, g4⟩ := hu v
  rw [g2] at g3
  injection g3 with _ g3
  have hbl := heap_lt hb
  have g5 : (setBlock W b (.map es' clock')).heap[b]? = (setBlock W b o').heap[b]? := by rw [g3]
  have g6 : ∀ o : Obj, (setBlock W b o).heap[b]? = some o := fun o => by simp [setBlock, hbl]
  rw [g6, g6] at g5
  injection g5 with g5
  subst g5
  exact ⟨_, g1, g4⟩
end
end Go.Proofs.Ytacjdeppigdbjaa
