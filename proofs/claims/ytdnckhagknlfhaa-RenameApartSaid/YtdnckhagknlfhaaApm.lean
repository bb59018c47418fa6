/-
  Plain mathematics for RenameApart: a file that has no line in common with any file of the other side is in no candidate; what is no file changes nothing. No walk.
-/
import Derived.Test.YtdnckhagknlfhaaApA
namespace Go.Proofs.Ytdnckhagknlfhaa
open Go.RowKit

/-- the data of the file more on the first side, and on the second one -/
def xHead : ByteArray := zb 70 ++ ⟨#[10]⟩
def xData : ByteArray := xHead ++ zb 80
def zData : ByteArray := zb 90
theorem x_lines : ((linesOf xData).all fun s => decide (s.size = 71 ∨ s.size = 80)) = true := by decide +kernel
theorem z_lines : ((linesOf zData).all fun s => decide (s.size = 90)) = true := by decide +kernel
theorem x_some : (linesOf xData).length ≠ 0 := by decide +kernel
theorem z_some : (linesOf zData).length ≠ 0 := by decide +kernel

theorem cat_x1 {o : Oper} {a : Act} {x : Operand} {W : World} (ho : o.op = Op.binOp BinOp.add 9 x (.const (.string ⟨#[10]⟩)) 9) (hx : a.eval x = .string (zb 70)) : (execOp a.eval o).run Try.prog W = .ok (.value (.string xHead)) W := op_cat (s := zb 70) (t := ⟨#[10]⟩) ho hx rfl (by decide +kernel)
theorem cat_x2 {o : Oper} {a : Act} {x y : Operand} {W : World} (ho : o.op = Op.binOp BinOp.add 9 x y 9) (hx : a.eval x = .string xHead) (hy : a.eval y = .string (zb 80)) : (execOp a.eval o).run Try.prog W = .ok (.value (.string xData)) W := op_cat (s := xHead) (t := zb 80) ho hx hy (by decide +kernel)

theorem files_other {y : It} (h : y.kind ≠ 2) (l : List It) : filesM (y :: l) = filesM l := by
  unfold filesM
  rw [List.foldl_cons]
  have : stepF [] y = [] := by unfold stepF; rw [if_neg (fun g => h g.1)]
  rw [this]
theorem files_snoc (l : List It) (x : It) : filesM (l ++ [x]) = stepF (filesM l) x := by
  unfold filesM
  rw [List.foldl_append]
  rfl
theorem fl_apart {y x : It} (h : y.kind ≠ 2) (l : List It) : fl ([y] ++ l ++ [x]) = fl l ∨ fl ([y] ++ l ++ [x]) = fl l ++ [(x.path, linesOf x.data)] := by
  have e : filesM ([y] ++ l ++ [x]) = stepF (filesM l) x := by rw [files_snoc, List.singleton_append, files_other h]
  unfold fl
  rw [e]
  unfold stepF
  split
  · right; simp
  · left; rfl
theorem le_sum : ∀ {l : List Nat} {x : Nat}, x ∈ l → x ≤ l.sum
  | y :: l, x, h => by
    rw [List.sum_cons]
    rcases List.mem_cons.1 h with rfl | h
    · omega
    · have := le_sum h
      omega
theorem split_part (l x : List UInt8) (h : x ∈ Sp.Pl.splitL l) : x.length ≤ l.length := by
  have h1 := congrArg List.length (Sp.Pl.join_split l)
  rw [List.length_flatten] at h1
  have h2 : x.length ∈ (Sp.Pl.splitL l).map List.length := List.mem_map.2 ⟨x, h, rfl⟩
  have := le_sum h2
  omega
theorem line_le {d s : ByteArray} (h : s ∈ linesOf d) : s.size ≤ d.size := by
  unfold linesOf at h
  obtain ⟨l, hl, rfl⟩ := List.mem_map.1 h
  have := split_part _ _ hl
  show l.toArray.size ≤ d.data.size
  rw [List.size_toArray]
  rw [Array.length_toList] at this
  exact this
theorem fl_small {its : List It} (h : TreeOk its) {g : ByteArray × List ByteArray} (hg : g ∈ fl its) : ∀ s ∈ g.2, s.size ≤ 60 := by
  unfold fl at hg
  obtain ⟨p, hp, rfl⟩ := List.mem_map.1 hg
  obtain ⟨it, hit, _, _, e⟩ := filesM_from hp
  intro s hs
  have h1 := line_le hs
  have h2 := h.data it hit
  rw [e] at h2
  omega
theorem no_common {a b : List ByteArray} (h : ∀ s ∈ a, ∀ u ∈ b, s.size ≠ u.size) (h0 : a.length ≠ 0) : Al.score a b = 0 ∧ Al.score b a = 0 := by
  have h1 : Al.score a b = 0 := Al.score_zero (Al.cm_zero.2 fun y hy hb => h y hy y hb rfl) (by omega)
  exact ⟨h1, by rw [Al.score_comm]; exact h1⟩
theorem cand_left {F F' G : List (ByteArray × List ByteArray)} {t : Int} {X : ByteArray × List ByteArray} (h : F' = F ∨ F' = F ++ [X]) (h0 : ∀ g ∈ G, Al.score X.2 g.2 = 0) (c : Pr) : CandM F' G t c ↔ CandM F G t c := by
  rcases h with rfl | rfl
  · rfl
  constructor
  · rintro ⟨x, hx, y, hy, rfl, hm⟩
    rcases List.mem_append.1 hx with hx | hx
    · exact ⟨x, hx, y, hy, rfl, hm⟩
    · have e : x = X := by simpa using hx
      subst e
      rw [h0 y hy] at hm
      have : max t 1 ≤ ((0 : Nat) : Int) := hm
      omega
  · rintro ⟨x, hx, y, hy, rfl, hm⟩
    exact ⟨x, List.mem_append_left _ hx, y, hy, rfl, hm⟩
theorem cand_right {F G G' : List (ByteArray × List ByteArray)} {t : Int} {Z : ByteArray × List ByteArray} (h : G' = G ∨ G' = G ++ [Z]) (h0 : ∀ f ∈ F, Al.score f.2 Z.2 = 0) (c : Pr) : CandM F G' t c ↔ CandM F G t c := by
  rcases h with rfl | rfl
  · rfl
  constructor
  · rintro ⟨x, hx, y, hy, rfl, hm⟩
    rcases List.mem_append.1 hy with hy | hy
    · exact ⟨x, hx, y, hy, rfl, hm⟩
    · have e : y = Z := by simpa using hy
      subst e
      rw [h0 x hx] at hm
      have : max t 1 ≤ ((0 : Nat) : Int) := hm
      omega
  · rintro ⟨x, hx, y, hy, rfl, hm⟩
    exact ⟨x, hx, y, List.mem_append_left _ hy, rfl, hm⟩
theorem x_far {b : List It} (h : TreeOk b) : ∀ g ∈ fl b, Al.score (linesOf xData) g.2 = 0 := fun g hg =>
  (no_common (fun s hs u hu => by
    have h1 := List.all_eq_true.1 x_lines s hs
    have h2 := fl_small h hg u hu
    simp only [decide_eq_true_eq] at h1
    omega) x_some).1
theorem z_far {a : List It} (h : TreeOk a) : ∀ f ∈ fl a, Al.score f.2 (linesOf zData) = 0 := fun f hf =>
  (no_common (fun s hs u hu => by
    have h1 := List.all_eq_true.1 z_lines s hs
    have h2 := fl_small h hf u hu
    simp only [decide_eq_true_eq] at h1
    omega) z_some).2
theorem x_z : Al.score (linesOf xData) (linesOf zData) = 0 :=
  (no_common (fun s hs u hu => by
    have h1 := List.all_eq_true.1 x_lines s hs
    have h2 := List.all_eq_true.1 z_lines u hu
    simp only [decide_eq_true_eq] at h1 h2
    omega) x_some).1

section
variable {a b : List It} (ha : TreeOk a) (hb : TreeOk b) {y x z : It} (hy : y.kind ≠ 2) (hx : x.data = xData) (hz : z.data = zData) (t : Int)
include hb hy hx in
theorem apart_c (c : Pr) : CandM (fl ([y] ++ a ++ [x])) (fl b) t c ↔ CandM (fl a) (fl b) t c :=
  cand_left (fl_apart hy a) (by rw [hx]; exact x_far hb) c
include ha hy hz in
theorem apart_d (c : Pr) : CandM (fl a) (fl ([y] ++ b ++ [z])) t c ↔ CandM (fl a) (fl b) t c :=
  cand_right (fl_apart hy b) (by rw [hz]; exact z_far ha) c
include ha hb hy hx hz in
theorem apart_cd (c : Pr) : CandM (fl ([y] ++ a ++ [x])) (fl ([y] ++ b ++ [z])) t c ↔ CandM (fl a) (fl b) t c := by
  refine (cand_left (fl_apart hy a) ?_ c).trans (apart_d ha hy hz t c)
  rw [hx]
  intro g hg
  rcases fl_apart (x := z) hy b with e | e
  · rw [e] at hg; exact x_far hb g hg
  · rw [e] at hg
    rcases List.mem_append.1 hg with hg | hg
    · exact x_far hb g hg
    · have e : g = (z.path, linesOf z.data) := by simpa using hg
      rw [e, hz]
      exact x_z
end
theorem apart_fit {a : List It} (ha : TreeOk a) {y x : It} (h1 : y.path.size ≤ 65536 ∧ y.data.size ≤ 65536) (h2 : x.path.size ≤ 65536 ∧ x.data.size ≤ 65536) : FitI ([y] ++ a ++ [x]) := by
  refine ⟨by have := ha.few; simp only [List.length_append, List.length_singleton]; omega, fun it hi => ?_⟩
  rcases List.mem_append.1 hi with hi | hi
  · rcases List.mem_append.1 hi with hi | hi
    · have e : it = y := by simpa using hi
      subst e; exact h1
    · exact ha.fit.2 it hi
  · have e : it = x := by simpa using hi
    subst e; exact h2

end Go.Proofs.Ytdnckhagknlfhaa
