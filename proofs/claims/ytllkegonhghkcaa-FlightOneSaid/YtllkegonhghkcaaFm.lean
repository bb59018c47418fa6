/-
  Fills: plain mathematics, in the words of the chapter. No walk, and nothing of the program.
-/
namespace P15

structure Fl where
  left : ByteArray
  right : ByteArray
  by_ : Int
  wait : List Int
deriving DecidableEq
def Fl.txt (x : Fl) : ByteArray × ByteArray := (x.left, x.right)
def Fl.nums (x : Fl) : List Int := x.by_ :: x.wait
/-- all numbers that are there -/
def nums (L : List Fl) : List Int := L.flatMap Fl.nums
def txts (L : List Fl) : List (ByteArray × ByteArray) := L.map Fl.txt
def bys (L : List Fl) : List Int := L.map Fl.by_
def waits (L : List Fl) : List Int := L.flatMap Fl.wait
/-- fills are right -/
def Right (L : List Fl) : Prop := (txts L).Nodup ∧ (nums L).Nodup
instance (L : List Fl) : Decidable (Right L) := by unfold Right; infer_instance
def rightB (L : List Fl) : Bool := decide (Right L)
theorem rightB_iff {L : List Fl} : rightB L = true ↔ Right L := by unfold rightB; simp
theorem rightB_not {L : List Fl} : rightB L = false ↔ ¬ Right L := by unfold rightB; simp
def joined (L : List Fl) (l r : ByteArray) (who : Int) : List Fl := L.map fun x => if x.txt = (l, r) then { x with wait := x.wait ++ [who] } else x
def without (l : List Int) (who : Int) : List Int := l.filter fun n => decide (n ≠ who)
def gone (L : List Fl) (who : Int) : List Fl := L.map fun x => { x with wait := without x.wait who }
def ended (L : List Fl) (who : Int) : List Fl := L.filter fun x => decide (x.by_ ≠ who)
/-- has one of them these texts? -/
def hasT (L : List Fl) (l r : ByteArray) : Bool := L.any fun x => decide (x.txt = (l, r))
def beginF (L : List Fl) (l r : ByteArray) (who : Int) : Bool × List Fl × Int :=
  if rightB L = true then
    if who ∈ nums L then (false, [], 4)
    else if hasT L l r = true then (false, joined L l r who, 0)
    else (true, L ++ [⟨l, r, who, []⟩], 0)
  else (false, [], 1)
def doneF (L : List Fl) (who : Int) : List Int × List Fl × Int :=
  if rightB L = true then
    match L.find? (fun x => decide (x.by_ = who)) with
    | some x => (x.wait, ended L who, 0)
    | none => ([], [], 10)
  else ([], [], 1)
def leaveF (L : List Fl) (who : Int) : List Fl × Int :=
  if rightB L = true then
    if who ∈ waits L then (gone L who, 0) else ([], 10)
  else ([], 1)

/-! ### lists -/
theorem nums_nil : nums [] = [] := rfl
theorem nums_cons (x : Fl) (L : List Fl) : nums (x :: L) = x.by_ :: (x.wait ++ nums L) := rfl
theorem nums_append (L M : List Fl) : nums (L ++ M) = nums L ++ nums M := by unfold nums; rw [List.flatMap_append]
theorem txts_append (L M : List Fl) : txts (L ++ M) = txts L ++ txts M := by unfold txts; rw [List.map_append]
theorem waits_append (L M : List Fl) : waits (L ++ M) = waits L ++ waits M := by unfold waits; rw [List.flatMap_append]
theorem mem_nums {L : List Fl} {n : Int} : n ∈ nums L ↔ ∃ x ∈ L, n = x.by_ ∨ n ∈ x.wait := by
  unfold nums Fl.nums
  rw [List.mem_flatMap]
  simp only [List.mem_cons]
theorem mem_waits {L : List Fl} {n : Int} : n ∈ waits L ↔ ∃ x ∈ L, n ∈ x.wait := by
  unfold waits; rw [List.mem_flatMap]
theorem mem_bys {L : List Fl} {n : Int} : n ∈ bys L ↔ ∃ x ∈ L, x.by_ = n := by
  unfold bys; rw [List.mem_map]
theorem mem_txts {L : List Fl} {t : ByteArray × ByteArray} : t ∈ txts L ↔ ∃ x ∈ L, x.txt = t := by
  unfold txts; rw [List.mem_map]
theorem nums_iff {L : List Fl} {n : Int} : n ∈ nums L ↔ n ∈ bys L ∨ n ∈ waits L := by
  rw [mem_nums, mem_bys, mem_waits]
  constructor
  · rintro ⟨x, hx, h | h⟩
    · exact .inl ⟨x, hx, h.symm⟩
    · exact .inr ⟨x, hx, h⟩
  · rintro (⟨x, hx, h⟩ | ⟨x, hx, h⟩)
    · exact ⟨x, hx, .inl h.symm⟩
    · exact ⟨x, hx, .inr h⟩
theorem take_snoc {α : Type} {L : List α} {i : Nat} {x : α} (h : L[i]? = some x) : L.take (i + 1) = L.take i ++ [x] := by
  obtain ⟨hk, rfl⟩ := List.getElem?_eq_some_iff.1 h
  exact List.take_succ_eq_append_getElem hk
theorem split_at {α : Type} {L : List α} {i : Nat} {x : α} (h : L[i]? = some x) : L = L.take i ++ x :: L.drop (i + 1) := by
  obtain ⟨hk, rfl⟩ := List.getElem?_eq_some_iff.1 h
  rw [← List.drop_eq_getElem_cons hk, List.take_append_drop]
theorem not_mem_append_nodup {α : Type} {a b : List α} {x : α} (h : (a ++ x :: b).Nodup) : x ∉ a ∧ x ∉ b := by
  have h1 := List.nodup_append.1 h
  exact ⟨fun hx => h1.2.2 x hx x (by simp) rfl, (List.nodup_cons.1 h1.2.1).1⟩
/-- what is done to one alone is done to that one -/
theorem map_set {α : Type} {L : List α} {i : Nat} {x : α} (f : α → α) (hi : L[i]? = some x) (h : ∀ y ∈ L.take i ++ L.drop (i + 1), f y = y) : L.map f = L.set i (f x) := by
  have hs := split_at hi
  have hl : (L.take i).length = i := by
    have := (List.getElem?_eq_some_iff.1 hi).1
    rw [List.length_take]; omega
  have e1 : L.map f = L.take i ++ f x :: L.drop (i + 1) := by
    conv => lhs; rw [hs]
    rw [List.map_append, List.map_cons]
    congr 1
    · rw [List.map_congr_left (g := id) (fun y hy => h y (by simp [hy])), List.map_id]
    · rw [List.map_congr_left (g := id) (fun y hy => h y (by simp [hy])), List.map_id]
  rw [e1]
  conv => rhs; rw [hs]
  rw [List.set_append_right _ _ (by omega), hl]
  simp
theorem apart_txt {L : List Fl} {i : Nat} {x y : Fl} (h : (txts L).Nodup) (hi : L[i]? = some x) (hy : y ∈ L.take i ++ L.drop (i + 1)) : y.txt ≠ x.txt := by
  rw [split_at hi] at h
  rw [txts_append] at h
  have := not_mem_append_nodup (x := x.txt) (b := txts (L.drop (i + 1))) h
  intro e
  rcases List.mem_append.1 hy with h' | h'
  · exact this.1 (mem_txts.2 ⟨y, h', e⟩)
  · exact this.2 (mem_txts.2 ⟨y, h', e⟩)
theorem apart_num {L : List Fl} {i : Nat} {x y : Fl} {n : Int} (h : (nums L).Nodup) (hi : L[i]? = some x) (hy : y ∈ L.take i ++ L.drop (i + 1)) (hn : n ∈ x.nums) : n ∉ y.nums := by
  rw [split_at hi, nums_append] at h
  have h1 := List.nodup_append.1 h
  have h2 : (x.nums ++ nums (L.drop (i + 1))).Nodup := h1.2.1
  have h3 := List.nodup_append.1 h2
  intro hny
  rcases List.mem_append.1 hy with h' | h'
  · exact h1.2.2 n (by unfold nums; exact List.mem_flatMap.2 ⟨y, h', hny⟩) n (show n ∈ x.nums ++ nums (L.drop (i + 1)) from List.mem_append_left _ hn) rfl
  · exact h3.2.2 n hn n (by unfold nums; exact List.mem_flatMap.2 ⟨y, h', hny⟩) rfl

/-! ### what the calls tell -/
theorem hasT_iff {L : List Fl} {l r : ByteArray} : hasT L l r = true ↔ (l, r) ∈ txts L := by
  unfold hasT
  rw [List.any_eq_true, mem_txts]
  exact ⟨fun ⟨x, hx, h⟩ => ⟨x, hx, of_decide_eq_true h⟩, fun ⟨x, hx, h⟩ => ⟨x, hx, decide_eq_true h⟩⟩
theorem beginF_wrong {L : List Fl} {l r : ByteArray} {who : Int} (h : rightB L = false) : beginF L l r who = (false, [], 1) := by unfold beginF; rw [h]; rfl
theorem beginF_twice {L : List Fl} {l r : ByteArray} {who : Int} (h : rightB L = true) (hw : who ∈ nums L) : beginF L l r who = (false, [], 4) := by unfold beginF; rw [if_pos h, if_pos hw]
theorem beginF_join {L : List Fl} {l r : ByteArray} {who : Int} (h : rightB L = true) (hw : who ∉ nums L) (ht : (l, r) ∈ txts L) : beginF L l r who = (false, joined L l r who, 0) := by unfold beginF; rw [if_pos h, if_neg hw, if_pos (hasT_iff.2 ht)]
theorem beginF_new {L : List Fl} {l r : ByteArray} {who : Int} (h : rightB L = true) (hw : who ∉ nums L) (ht : (l, r) ∉ txts L) : beginF L l r who = (true, L ++ [⟨l, r, who, []⟩], 0) := by unfold beginF; rw [if_pos h, if_neg hw, if_neg (fun e => ht (hasT_iff.1 e))]
theorem doneF_wrong {L : List Fl} {who : Int} (h : rightB L = false) : doneF L who = ([], [], 1) := by unfold doneF; rw [h]; rfl
theorem doneF_none {L : List Fl} {who : Int} (h : rightB L = true) (hw : who ∉ bys L) : doneF L who = ([], [], 10) := by
  unfold doneF
  rw [if_pos h, List.find?_eq_none.2 (fun x hx => by simp; intro e; exact hw (mem_bys.2 ⟨x, hx, e⟩))]
theorem doneF_some {L : List Fl} {who : Int} {x : Fl} (h : rightB L = true) (hx : x ∈ L) (hw : x.by_ = who) : doneF L who = (x.wait, ended L who, 0) := by
  have hr := (rightB_iff.1 h).2
  unfold doneF
  rw [if_pos h]
  cases hf : L.find? (fun x => decide (x.by_ = who)) with
  | none => have := List.find?_eq_none.1 hf x hx; simp [hw] at this
  | some y =>
    have hy := List.mem_of_find?_eq_some hf
    have ey : y.by_ = who := by have := List.find?_some hf; simpa using this
    have : x = y := by
      obtain ⟨i, hi⟩ := List.getElem?_of_mem hx
      rw [split_at hi] at hy
      rcases List.mem_append.1 hy with h' | h'
      · exact absurd (show x.by_ ∈ y.nums by rw [hw, ← ey]; exact List.mem_cons_self ..) (apart_num hr hi (List.mem_append_left _ h') (List.mem_cons_self ..))
      · rcases List.mem_cons.1 h' with h' | h'
        · exact h'.symm
        · exact absurd (show x.by_ ∈ y.nums by rw [hw, ← ey]; exact List.mem_cons_self ..) (apart_num hr hi (List.mem_append_right _ h') (List.mem_cons_self ..))
    rw [this]
theorem leaveF_wrong {L : List Fl} {who : Int} (h : rightB L = false) : leaveF L who = ([], 1) := by unfold leaveF; rw [h]; rfl
theorem leaveF_none {L : List Fl} {who : Int} (h : rightB L = true) (hw : who ∉ waits L) : leaveF L who = ([], 10) := by unfold leaveF; rw [if_pos h, if_neg hw]
theorem leaveF_some {L : List Fl} {who : Int} (h : rightB L = true) (hw : who ∈ waits L) : leaveF L who = (gone L who, 0) := by unfold leaveF; rw [if_pos h, if_pos hw]
theorem joined_set {L : List Fl} {i : Nat} {x : Fl} {l r : ByteArray} (who : Int) (h : (txts L).Nodup) (hi : L[i]? = some x) (hx : x.txt = (l, r)) : joined L l r who = L.set i { x with wait := x.wait ++ [who] } := by
  unfold joined
  rw [map_set _ hi fun y hy => if_neg (by rw [← hx]; exact apart_txt h hi hy), if_pos hx]
theorem without_none {l : List Int} {who : Int} (h : who ∉ l) : without l who = l := by
  unfold without
  exact List.filter_eq_self.2 fun n hn => by simp; rintro rfl; exact h hn
theorem gone_set {L : List Fl} {i : Nat} {x : Fl} {who : Int} (h : (nums L).Nodup) (hi : L[i]? = some x) (hx : who ∈ x.wait) : gone L who = L.set i { x with wait := without x.wait who } := by
  unfold gone
  rw [map_set _ hi fun y hy => ?_]
  have := apart_num h hi hy (n := who) (List.mem_cons_of_mem _ hx)
  show ({ y with wait := without y.wait who } : Fl) = y
  rw [without_none fun h' => this (List.mem_cons_of_mem _ h')]
theorem ended_at {L : List Fl} {i : Nat} {x : Fl} {who : Int} (h : (nums L).Nodup) (hi : L[i]? = some x) (hx : x.by_ = who) : ended L who = L.take i ++ L.drop (i + 1) := by
  have hk : ∀ y ∈ L.take i ++ L.drop (i + 1), decide (y.by_ ≠ who) = true := fun y hy => by
    have := apart_num h hi hy (n := who) (by rw [← hx]; exact List.mem_cons_self ..)
    simp
    rintro rfl
    exact this (List.mem_cons_self ..)
  unfold ended
  conv => lhs; rw [split_at hi]
  rw [List.filter_append, List.filter_cons_of_neg (by simp [hx]), List.filter_eq_self.2 (fun y hy => hk y (by simp [hy])), List.filter_eq_self.2 (fun y hy => hk y (by simp [hy]))]

/-! ### what stays right -/
theorem nodup_map_nums {L : List Fl} {f : Fl → Fl} (hf : ∀ x ∈ L, List.Sublist (f x).nums x.nums) : List.Sublist (nums (L.map f)) (nums L) := by
  induction L with
  | nil => exact List.Sublist.refl _
  | cons x L ih => exact (hf x (by simp)).append (ih fun y hy => hf y (by simp [hy]))
theorem txts_map {L : List Fl} {f : Fl → Fl} (hf : ∀ x ∈ L, (f x).txt = x.txt) : txts (L.map f) = txts L := by
  unfold txts
  rw [List.map_map]
  exact List.map_congr_left hf
theorem bys_map {L : List Fl} {f : Fl → Fl} (hf : ∀ x ∈ L, (f x).by_ = x.by_) : bys (L.map f) = bys L := by
  unfold bys
  rw [List.map_map]
  exact List.map_congr_left hf
theorem sub_ended (L : List Fl) (who : Int) : List.Sublist (ended L who) L := List.filter_sublist
theorem nums_sub {L M : List Fl} (hs : List.Sublist M L) : List.Sublist (nums M) (nums L) := by
  induction hs with
  | slnil => exact List.Sublist.refl _
  | cons x _ ih => exact ih.trans (List.sublist_append_right x.nums _)
  | cons_cons x _ ih => exact (List.Sublist.refl x.nums).append ih
theorem Right.sub {L M : List Fl} (h : Right L) (hs : List.Sublist M L) : Right M := by
  exact ⟨h.1.sublist (hs.map _), h.2.sublist (nums_sub hs)⟩
theorem Right.ended {L : List Fl} (h : Right L) (who : Int) : Right (ended L who) := h.sub (sub_ended L who)
theorem Right.gone {L : List Fl} (h : Right L) (who : Int) : Right (gone L who) := by
  refine ⟨?_, h.2.sublist (nodup_map_nums fun x _ => ?_)⟩
  · unfold P15.gone; rw [txts_map (f := fun x => { x with wait := P15.without x.wait who }) fun x _ => rfl]; exact h.1
  · exact List.Sublist.cons_cons _ List.filter_sublist
theorem Right.new {L : List Fl} (h : Right L) {l r : ByteArray} {who : Int} (hw : who ∉ nums L) (ht : (l, r) ∉ txts L) : Right (L ++ [⟨l, r, who, []⟩]) := by
  refine ⟨?_, ?_⟩
  · rw [txts_append]
    exact List.nodup_append.2 ⟨h.1, by simp [txts], fun a ha b hb => by simp [txts, Fl.txt] at hb; rintro rfl; rw [hb] at ha; exact ht ha⟩
  · rw [nums_append]
    exact List.nodup_append.2 ⟨h.2, by simp [nums, Fl.nums], fun a ha b hb => by simp [nums, Fl.nums] at hb; rintro rfl; rw [hb] at ha; exact hw ha⟩
theorem mem_joined {L : List Fl} {l r : ByteArray} {who n : Int} (h : n ∈ nums (joined L l r who)) : n ∈ nums L ∨ n = who := by
  obtain ⟨y, hy, hn⟩ := mem_nums.1 h
  obtain ⟨x, hx, rfl⟩ := List.mem_map.1 hy
  split at hn
  · rcases hn with hn | hn
    · exact .inl (mem_nums.2 ⟨x, hx, .inl hn⟩)
    · rcases List.mem_append.1 hn with hn | hn
      · exact .inl (mem_nums.2 ⟨x, hx, .inr hn⟩)
      · exact .inr (by simpa using hn)
  · exact .inl (mem_nums.2 ⟨x, hx, hn⟩)
theorem Right.joined {L : List Fl} (h : Right L) {l r : ByteArray} {who : Int} (hw : who ∉ nums L) : Right (joined L l r who) := by
  refine ⟨?_, ?_⟩
  · unfold P15.joined; rw [txts_map fun x _ => by split <;> rfl]; exact h.1
  · by_cases ht : (l, r) ∈ txts L
    · obtain ⟨x, hx, e⟩ := mem_txts.1 ht
      obtain ⟨i, hi⟩ := List.getElem?_of_mem hx
      rw [joined_set who h.1 hi e]
      have hl : (L.take i).length = i := by
        have := (List.getElem?_eq_some_iff.1 hi).1
        rw [List.length_take]; omega
      have e2 : L.set i { x with wait := x.wait ++ [who] } = L.take i ++ { x with wait := x.wait ++ [who] } :: L.drop (i + 1) := by
        conv => lhs; rw [split_at hi]
        rw [List.set_append_right _ _ (by omega), hl]
        simp
      rw [e2]
      have h2 := h.2
      rw [split_at hi] at h2 hw
      rw [nums_append, nums_cons] at h2 hw ⊢
      have hp : List.Perm (nums (L.take i) ++ x.by_ :: (x.wait ++ [who] ++ nums (L.drop (i + 1)))) (who :: (nums (L.take i) ++ x.by_ :: (x.wait ++ nums (L.drop (i + 1))))) := by
        have p1 : List.Perm (x.by_ :: (x.wait ++ [who] ++ nums (L.drop (i + 1)))) (who :: x.by_ :: (x.wait ++ nums (L.drop (i + 1)))) := by
          have : List.Perm (x.by_ :: x.wait ++ who :: nums (L.drop (i + 1))) (who :: (x.by_ :: x.wait ++ nums (L.drop (i + 1)))) := List.perm_middle
          simpa using this
        exact (p1.append_left _).trans List.perm_middle
      exact hp.nodup_iff.2 (List.nodup_cons.2 ⟨hw, h2⟩)
    · have : P15.joined L l r who = L := by
        unfold P15.joined
        exact (List.map_congr_left (g := id) (fun x hx => by rw [if_neg fun e => ht (mem_txts.2 ⟨x, hx, e⟩)]; rfl)).trans (List.map_id _)
      rw [this]; exact h.2

end P15
