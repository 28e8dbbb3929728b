/- Values that are built of parts: what is cached, the caches. No statement is proved here. -/
import Derived.Test.YtnogmfpaipjdaaaKit2
import Derived.Test.YtnogmfpaipjdaaaPBound
namespace Go.Proofs.Ytnogmfpaipjdaaa
open Go.RowKit
open P (Pl right hasI vals)
set_option maxRecDepth 20000
set_option linter.unusedVariables false
set_option linter.unusedSimpArgs false

theorem wpList_build_aq {ops : Array Oper} {rest : List Oper} {o : Oper} {a : Act} {Q : Exit → Act → World → Prop} {W : World} (t : TypeId) (parts : List (Nat × Operand)) (ho : o.op = .build t parts.toArray) (hw : Region.wanted o (yielded ops a.tmps) = true) (cells : Array Value)
    (hf : Try.prog.built t (parts.map fun p => (p.1, a.eval p.2)) = some cells) (k : wpList Try.prog ops Q rest (a.put o.dst (.agg cells)) W) : wpList Try.prog ops Q (o :: rest) a W := by
  have hf' : Try.prog.built t (parts.toArray.map fun (i, x) => (i, a.eval x)).toList = some cells := by
    simpa using hf
  unfold wpList
  rw [if_pos hw]
  refine .inl (wp_build t parts.toArray ho (by rw [hf']; rfl) ?_)
  rw [hf']
  exact k
theorem fold_at (l : List Value) : ∀ (k o : Nat) (base : Array Value), o + k + l.length ≤ base.size →
    ((l.zipIdx k).foldl (fun cs (x : Value × Nat) => cs.setIfInBounds (o + x.2) x.1) base) = (base.toList.take (o + k) ++ l ++ base.toList.drop (o + k + l.length)).toArray := by
  induction l with
  | nil => intro k o base h; simp
  | cons c l ih =>
    intro k o base h
    simp only [List.length_cons] at h
    rw [List.zipIdx_cons, List.foldl_cons, ih (k + 1) o _ (by simp; omega)]
    apply Array.ext'
    simp only [Array.toList_setIfInBounds, List.length_cons]
    rw [show o + (k + 1) = (o + k) + 1 by omega, List.take_add_one, List.take_set_of_le (Nat.le_refl _), List.getElem?_set_self (by simp; omega), List.drop_set_of_lt (by omega)]
    simp only [Option.toList_some, List.append_assoc, List.cons_append, List.nil_append]
    rw [show o + k + 1 + l.length = o + k + (l.length + 1) by omega]
theorem fill_step (place : Nat → Option (Nat × Nat)) (base : Array Value) (i off size : Nat) (v : Value) (cs : List Value) (rest : List (Nat × Value)) (hp : place i = some (off, size)) (hv : v.cells = cs.toArray) (hs : cs.length = size) (hb : off + size ≤ base.size) :
    Instr.fill place base ((i, v) :: rest) = Instr.fill place (base.toList.take off ++ cs ++ base.toList.drop (off + size)).toArray rest := by
  subst hs
  rw [Instr.fill, hp]
  simp only [hv, List.size_toArray]
  rw [if_neg (by simp; omega)]
  have := fold_at cs 0 off base (by omega)
  simp only [Nat.add_zero] at this
  rw [← Array.foldl_toList, Array.toList_zipIdx, List.toList_toArray, this]
def zw (p : Value) : List Value := p.cells.toList
theorem info59z : (Try.prog.info? 59).map (fun i => i.zero) = some (some (.agg zcd.arr)) := by kernel_rfl
theorem built59K (x : It) (b : Int) (bs : List Nat) (hl : bs.length = 32) : Try.prog.built 59 [(0, .agg x.arr), (1, .int .i64 b), (2, .agg (lnA bs))] = some (Cd.arr ⟨x, b, bs, false, hl⟩) := by
  obtain ⟨it, hi, hz⟩ : ∃ it, Try.prog.info? 59 = some it ∧ it.zero = some (.agg zcd.arr) := by
    have := info59z
    cases h : Try.prog.info? 59 with
    | none => rw [h] at this; cases this
    | some it => rw [h] at this; exact ⟨it, rfl, by injection this⟩
  unfold Program.built
  rw [hi, Try.underlying59]
  simp only [hz]
  have hp : ∀ l : List Field, l = (#[{ name := "Item", type := 42, offset := 0, embedded := false, tag := "", pkgPath := "", byteOffset := 0 }, { name := "Bank", type := 3, offset := 2, embedded := false, tag := "", pkgPath := "", byteOffset := 16 }, { name := "Bytes", type := 44, offset := 3, embedded := false, tag := "", pkgPath := "", byteOffset := 24 }, { name := "Dirty", type := 4, offset := 35, embedded := false, tag := "", pkgPath := "", byteOffset := 56 }] : Array Field).toList → List.mapM (fun f : Field => Option.map (fun i => (f.offset, i.size)) (Try.prog.info? f.type)) l = some [(0, 2), (2, 1), (3, 32), (35, 1)] := fun l hl => by subst hl; kernel_rfl
  rw [hp _ rfl]
  show Instr.fill _ (zcd.arr) _ = _
  have e0 : zcd.arr = ([.int .i64 0, .int .i64 0] ++ ([.int .i64 0] ++ (vals z32 ++ [.bool false])) : List Value).toArray := by unfold Cd.arr Cd.cs; rfl
  have z1 : (vals z32).length = 32 := by rw [vals_length, z32_len]
  have z2 : (vals bs).length = 32 := by rw [vals_length, hl]
  rw [fill_step _ _ 0 0 2 (.agg x.arr) x.cs _ rfl rfl rfl (by rw [zcd.arr_size]; omega)]
  rw [e0]
  generalize vals z32 = zs at *
  have q1 : (([.int .i64 0, .int .i64 0] ++ ([.int .i64 0] ++ (zs ++ [.bool false])) : List Value).toArray.toList.take 0 ++ x.cs ++ ([.int .i64 0, .int .i64 0] ++ ([.int .i64 0] ++ (zs ++ [.bool false])) : List Value).toArray.toList.drop (0 + 2)) = x.cs ++ ([.int .i64 0] ++ (zs ++ [.bool false])) := by simp
  rw [q1, fill_step _ _ 1 2 1 (.int .i64 b) [.int .i64 b] _ rfl rfl rfl (by simp [It.cs, z1])]
  have q2 : ((x.cs ++ ([.int .i64 0] ++ (zs ++ [.bool false])) : List Value).toArray.toList.take 2 ++ [.int .i64 b] ++ (x.cs ++ ([.int .i64 0] ++ (zs ++ [.bool false])) : List Value).toArray.toList.drop (2 + 1)) = (x.cs ++ [.int .i64 b]) ++ (zs ++ [.bool false]) := by simp [It.cs]
  rw [q2, fill_step _ _ 2 3 32 (.agg (lnA bs)) (vals bs) _ rfl (by simp [Value.cells, lnA]) z2 (by simp [It.cs, z1])]
  have q3 : (((x.cs ++ [.int .i64 b]) ++ (zs ++ [.bool false]) : List Value).toArray.toList.take 3 ++ vals bs ++ ((x.cs ++ [.int .i64 b]) ++ (zs ++ [.bool false]) : List Value).toArray.toList.drop (3 + 32)) = (x.cs ++ [.int .i64 b]) ++ (vals bs ++ [.bool false]) := by
    have r1 : ((x.cs ++ [.int .i64 b]) ++ (zs ++ [.bool false]) : List Value).take 3 = x.cs ++ [.int .i64 b] := List.take_left' (by simp [It.cs])
    have r2 : ((x.cs ++ [.int .i64 b]) ++ (zs ++ [.bool false]) : List Value).drop (3 + 32) = [.bool false] := by
      rw [← List.append_assoc, List.drop_left' (by simp [It.cs, z1])]
    rw [List.toList_toArray, r1, r2, List.append_assoc, List.append_assoc]
  rw [q3]
  unfold Instr.fill Cd.arr Cd.cs It.cs
  rfl
theorem pcar_built (p : Pl) (v z : Value) : (((P.Pl.zero.cs ++ [z]) : List Value).toArray.toList.take 0 ++ p.cs ++ ((P.Pl.zero.cs ++ [z]) : List Value).toArray.toList.drop (0 + 46)) = p.cs ++ [z] := by
  rw [List.toList_toArray, List.drop_left' (by rw [P.Pl.cs_length]), List.take_zero, List.nil_append]
theorem info71z : (Try.prog.info? 71).map (fun i => i.zero) = some (some (.agg (P.Pl.zero.cs ++ [.slice none 0 0] : List Value).toArray)) := by unfold P.Pl.cs; kernel_rfl
theorem info40z : (Try.prog.info? 40).map (fun i => i.zero) = some (some (.agg (P.Pl.zero.cs ++ [.slice none 0 0] : List Value).toArray)) := by unfold P.Pl.cs; kernel_rfl
theorem built71K (p : Pl) (v : Value) (hv : v.cells = #[v]) : Try.prog.built 71 [(0, .agg p.arr), (1, v)] = some (pcar p v) := by
  obtain ⟨it, hi, hz⟩ : ∃ it, Try.prog.info? 71 = some it ∧ it.zero = some (.agg (P.Pl.zero.cs ++ [.slice none 0 0] : List Value).toArray) := by
    have := info71z
    cases h : Try.prog.info? 71 with
    | none => rw [h] at this; cases this
    | some it => rw [h] at this; exact ⟨it, rfl, by injection this⟩
  unfold Program.built
  rw [hi, Try.underlying71]
  simp only [hz]
  have hp : ∀ l : List Field, l = (#[{ name := "plan", type := 28, offset := 0, embedded := false, tag := "", pkgPath := "bastion/meta", byteOffset := 0 }, { name := "banks", type := 69, offset := 46, embedded := false, tag := "", pkgPath := "bastion/meta", byteOffset := 144 }] : Array Field).toList → List.mapM (fun f : Field => Option.map (fun i => (f.offset, i.size)) (Try.prog.info? f.type)) l = some [(0, 46), (46, 1)] := fun l hl => by subst hl; kernel_rfl
  rw [hp _ rfl]
  show Instr.fill _ (P.Pl.zero.cs ++ [.slice none 0 0] : List Value).toArray _ = _
  rw [fill_step _ _ 0 0 46 (.agg p.arr) p.cs _ rfl (by rw [Pl_arr]; rfl) p.cs_length (by simp [P.Pl.cs_length]), pcar_built p v]
  rw [fill_step _ _ 1 46 1 v [v] _ rfl hv rfl (by simp [p.cs_length])]
  have q : ((p.cs ++ [.slice none 0 0] : List Value).toArray.toList.take 46 ++ [v] ++ (p.cs ++ [.slice none 0 0] : List Value).toArray.toList.drop (46 + 1)) = p.cs ++ [v] := by
    rw [List.toList_toArray, List.take_left' p.cs_length, List.drop_of_length_le (by simp [p.cs_length]), List.append_nil]
  rw [q]
  unfold Instr.fill pcar
  rfl
theorem built40K (p : Pl) : Try.prog.built 40 [(0, .agg p.arr)] = some (pcar p (.slice none 0 0)) := by
  obtain ⟨it, hi, hz⟩ : ∃ it, Try.prog.info? 40 = some it ∧ it.zero = some (.agg (P.Pl.zero.cs ++ [.slice none 0 0] : List Value).toArray) := by
    have := info40z
    cases h : Try.prog.info? 40 with
    | none => rw [h] at this; cases this
    | some it => rw [h] at this; exact ⟨it, rfl, by injection this⟩
  unfold Program.built
  rw [hi, Try.underlying40]
  simp only [hz]
  have hp : ∀ l : List Field, l = (#[{ name := "P", type := 28, offset := 0, embedded := false, tag := "", pkgPath := "", byteOffset := 0 }, { name := "List", type := 38, offset := 46, embedded := false, tag := "", pkgPath := "", byteOffset := 144 }] : Array Field).toList → List.mapM (fun f : Field => Option.map (fun i => (f.offset, i.size)) (Try.prog.info? f.type)) l = some [(0, 46), (46, 1)] := fun l hl => by subst hl; kernel_rfl
  rw [hp _ rfl]
  show Instr.fill _ (P.Pl.zero.cs ++ [.slice none 0 0] : List Value).toArray _ = _
  rw [fill_step _ _ 0 0 46 (.agg p.arr) p.cs _ rfl (by rw [Pl_arr]; rfl) p.cs_length (by simp [P.Pl.cs_length]), pcar_built p (.slice none 0 0)]
  unfold Instr.fill pcar
  rfl
end Go.Proofs.Ytnogmfpaipjdaaa
