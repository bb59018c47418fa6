/-
  Plain mathematics of a list of slots of which the one that was asked for longest ago goes first.
-/
namespace P13

section
variable {σ κ : Type} (key : σ → κ)

def keys (l : List σ) : List κ := l.map key

/-- no two slots have one key. -/
def Right (l : List σ) : Prop := (keys key l).Nodup

variable {key}

theorem mem_keys {l : List σ} {k : κ} : k ∈ keys key l ↔ ∃ s, s ∈ l ∧ key s = k := by
  simp [keys, List.mem_map]

theorem keys_append (l m : List σ) : keys key (l ++ m) = keys key l ++ keys key m := by simp [keys]

theorem Right.sub {l m : List σ} (h : Right key m) (hs : List.Sublist l m) : Right key l :=
  List.Nodup.sublist (List.Sublist.map key hs) h

theorem Right.nil : Right key ([] : List σ) := by simp [Right, keys]

theorem Right.cons {l : List σ} {s : σ} (h : Right key l) (hn : key s ∉ keys key l) : Right key (s :: l) := by
  show (key s :: keys key l).Nodup
  exact List.nodup_cons.mpr ⟨hn, h⟩

theorem Right.take {l : List σ} (h : Right key l) (n : Nat) : Right key (l.take n) := h.sub (List.take_sublist n l)

theorem Right.drop {l : List σ} (h : Right key l) (n : Nat) : Right key (l.drop n) := h.sub (List.drop_sublist n l)

/-- what has one key in a list that is right is one slot. -/
theorem Right.same {l : List σ} (h : Right key l) {a b : σ} (ha : a ∈ l) (hb : b ∈ l) (e : key a = key b) : a = b := by
  induction l with
  | nil => cases ha
  | cons s l ih =>
    have hc : key s ∉ keys key l ∧ (keys key l).Nodup := List.nodup_cons.mp h
    rcases List.mem_cons.mp ha with rfl | ha'
    · rcases List.mem_cons.mp hb with rfl | hb'
      · rfl
      · exact absurd (mem_keys.mpr ⟨b, hb', e.symm⟩) hc.1
    · rcases List.mem_cons.mp hb with rfl | hb'
      · exact absurd (mem_keys.mpr ⟨a, ha', e⟩) hc.1
      · exact ih hc.2 ha' hb'

theorem Right.nodup {l : List σ} (h : Right key l) : l.Nodup := by
  induction l with
  | nil => exact List.nodup_nil
  | cons s l ih =>
    have hc : key s ∉ keys key l ∧ (keys key l).Nodup := List.nodup_cons.mp h
    exact List.nodup_cons.mpr ⟨fun hm => hc.1 (mem_keys.mpr ⟨s, hm, rfl⟩), ih hc.2⟩

variable [DecidableEq κ] (key)

/-- the slots that have another key. -/
def without (l : List σ) (k : κ) : List σ := l.filter (fun s => decide (key s ≠ k))

/-- all slots that there are when one is put. -/
def all (l : List σ) (s : σ) : List σ := s :: without key l (key s)

variable {key}

theorem mem_without {l : List σ} {k : κ} {s : σ} : s ∈ without key l k ↔ s ∈ l ∧ key s ≠ k := by
  simp [without, List.mem_filter]

theorem without_none {l : List σ} {k : κ} (h : k ∉ keys key l) : without key l k = l := by
  rw [without, List.filter_eq_self]
  intro s hs
  have : key s ≠ k := fun e => h (mem_keys.mpr ⟨s, hs, e⟩)
  simp [this]

theorem keys_without (l : List σ) (k : κ) : keys key (without key l k) = (keys key l).filter (fun j => decide (j ≠ k)) := by
  simp [keys, without, List.filter_map, Function.comp_def]

theorem without_append (l m : List σ) (k : κ) : without key (l ++ m) k = without key l k ++ without key m k := by
  simp [without]

theorem without_sub (l : List σ) (k : κ) : List.Sublist (without key l k) l := List.filter_sublist

theorem Right.without {l : List σ} (h : Right key l) (k : κ) : Right key (without key l k) := h.sub (without_sub l k)

theorem not_mem_without (l : List σ) (k : κ) : k ∉ keys key (without key l k) := by
  rw [keys_without]; simp [List.mem_filter]

theorem Right.all {l : List σ} (h : Right key l) (s : σ) : Right key (all key l s) :=
  (h.without (key s)).cons (not_mem_without l (key s))

theorem length_without {l : List σ} (h : Right key l) {k : κ} (hk : k ∈ keys key l) : (without key l k).length + 1 = l.length := by
  induction l with
  | nil => simp [keys] at hk
  | cons s l ih =>
    have hc : key s ∉ keys key l ∧ (keys key l).Nodup := List.nodup_cons.mp h
    by_cases e : key s = k
    · subst e
      have : without key (s :: l) (key s) = l := by
        show List.filter _ _ = _
        rw [List.filter_cons_of_neg (by simp)]
        exact without_none hc.1
      rw [this]; simp
    · have hk' : k ∈ keys key l := by
        rcases List.mem_cons.mp (show k ∈ key s :: keys key l from hk) with e' | h'
        · exact absurd e'.symm e
        · exact h'
      have : without key (s :: l) k = s :: without key l k := by
        show List.filter _ _ = _
        rw [List.filter_cons_of_pos (by simp [e])]
        rfl
      rw [this]
      simp [ih hc.2 hk']

theorem length_all {l : List σ} (h : Right key l) (s : σ) : l.length ≤ (all key l s).length ∧ (all key l s).length ≤ l.length + 1 := by
  refine ⟨?_, ?_⟩
  · by_cases hk : key s ∈ keys key l
    · have := length_without h hk
      simp [all]; omega
    · simp [all, without_none hk]
  · have := (without_sub (key := key) l (key s)).length_le
    simp [all]; omega

/-- of a list to whose front one of its slots has gone there are as many. -/
theorem length_got {l : List σ} (h : Right key l) {x : σ} (hx : x ∈ l) : (x :: without key l (key x)).length = l.length := by
  have := length_without h (mem_keys.mpr ⟨x, hx, rfl⟩)
  simpa using this

/-- what is there when one has been put: that one, or one that was there, of another key. -/
theorem mem_all {l : List σ} {s x : σ} : x ∈ all key l s ↔ x = s ∨ (x ∈ l ∧ key x ≠ key s) := by
  simp [all, mem_without]

/-- what is put twice changes nothing more. -/
theorem all_take_again {l : List σ} {s : σ} {n : Nat} (hn : 0 < n) : all key ((all key l s).take n) s = (all key l s).take n := by
  obtain ⟨m, rfl⟩ : ∃ m, n = m + 1 := ⟨n - 1, by omega⟩
  have hw : key s ∉ keys key ((without key l (key s)).take m) := by
    intro hm
    obtain ⟨x, hx, e⟩ := mem_keys.mp hm
    exact (mem_without.mp (List.mem_of_mem_take hx)).2 e
  show s :: without key ((s :: without key l (key s)).take (m + 1)) (key s) = (s :: without key l (key s)).take (m + 1)
  rw [List.take_succ_cons]
  congr 1
  show List.filter _ _ = _
  rw [List.filter_cons_of_neg (by simp)]
  exact without_none hw

/-! ### the order in which keys were asked for -/

/-- of keys that were touched, the last one last, each once, the last one first. -/
def firsts : List κ → List κ
  | [] => []
  | k :: r => k :: (firsts r).filter (fun j => decide (j ≠ k))

theorem mem_firsts {r : List κ} {k : κ} : k ∈ firsts r ↔ k ∈ r := by
  induction r with
  | nil => simp [firsts]
  | cons a r ih =>
    simp only [firsts, List.mem_cons, List.mem_filter, ih]
    by_cases e : k = a
    · simp [e]
    · simp [e]

theorem nodup_firsts (r : List κ) : (firsts r).Nodup := by
  induction r with
  | nil => simp [firsts]
  | cons a r ih =>
    refine List.nodup_cons.mpr ⟨by simp [List.mem_filter], ih.sublist List.filter_sublist⟩

/-- the first n of keys of which one is left out: what is left of the first n + 1, if that one is among them. -/
theorem take_filter_ne {D : List κ} (hD : D.Nodup) (k : κ) (n : Nat) (hk : k ∈ D.take (n + 1)) :
    (D.filter (fun j => decide (j ≠ k))).take n = (D.take (n + 1)).filter (fun j => decide (j ≠ k)) := by
  induction D generalizing n with
  | nil => simp
  | cons a D ih =>
    have hc := List.nodup_cons.mp hD
    have keep : ∀ (m : Nat), k ∉ D → (D.take m).filter (fun j => decide (j ≠ k)) = D.take m := by
      intro m hn
      rw [List.filter_eq_self]
      intro j hj
      have : j ≠ k := fun e => hn (e ▸ List.mem_of_mem_take hj)
      simp [this]
    by_cases e : a = k
    · subst e
      rw [List.filter_cons_of_neg (by simp), List.take_succ_cons, List.filter_cons_of_neg (by simp), keep n hc.1]
      congr 1
      rw [List.filter_eq_self]
      intro j hj
      have : j ≠ a := fun e => hc.1 (e ▸ hj)
      simp [this]
    · have hk' : k ∈ D.take n := by
        rw [List.take_succ_cons] at hk
        rcases List.mem_cons.mp hk with e' | h'
        · exact absurd e'.symm e
        · exact h'
      obtain ⟨m, rfl⟩ : ∃ m, n = m + 1 := by
        cases n with
        | zero => simp at hk'
        | succ m => exact ⟨m, rfl⟩
      rw [List.filter_cons_of_pos (by simp [e]), List.take_succ_cons, List.take_succ_cons, List.filter_cons_of_pos (by simp [e])]
      rw [ih hc.2 m hk']

/-- … and, if it is not among the first n, what comes first is as it was. -/
theorem take_filter_ne_none {D : List κ} (k : κ) (n : Nat) (hk : k ∉ D.take n) :
    (D.filter (fun j => decide (j ≠ k))).take n = D.take n := by
  induction D generalizing n with
  | nil => simp
  | cons a D ih =>
    cases n with
    | zero => simp
    | succ n =>
      rw [List.take_succ_cons] at hk
      have ha : a ≠ k := fun e => hk (e ▸ List.mem_cons_self ..)
      rw [List.filter_cons_of_pos (by simp [ha]), List.take_succ_cons, List.take_succ_cons, ih n (fun h => hk (List.mem_cons_of_mem _ h))]

/-- to touch a key: of the keys that were there, as many as there is room for, that one comes first. -/
theorem touch_take {D : List κ} (hD : D.Nodup) (k : κ) (n : Nat) :
    (k :: (D.take (n + 1)).filter (fun j => decide (j ≠ k))).take (n + 1) = (k :: D.filter (fun j => decide (j ≠ k))).take (n + 1) := by
  rw [List.take_succ_cons, List.take_succ_cons]
  congr 1
  by_cases hk : k ∈ D.take (n + 1)
  · rw [← take_filter_ne hD k n hk, List.take_take]; simp
  · have hkn : k ∉ D.take n := fun h => hk (by
      have : D.take n = (D.take (n + 1)).take n := by rw [List.take_take]; simp
      rw [this] at h; exact List.mem_of_mem_take h)
    rw [take_filter_ne_none k n hkn]
    have : (D.take (n + 1)).filter (fun j => decide (j ≠ k)) = D.take (n + 1) := by
      rw [List.filter_eq_self]; intro j hj
      have : j ≠ k := fun e => hk (e ▸ hj)
      simp [this]
    rw [this, List.take_take]; simp

/-- what was touched, put: the keys that are there. -/
theorem keys_put {l : List σ} {r : List κ} {n : Nat} (h : keys key l = (firsts r).take (n + 1)) (s : σ) :
    keys key ((all key l s).take (n + 1)) = (firsts (key s :: r)).take (n + 1) := by
  have : keys key ((all key l s).take (n + 1)) = (keys key (all key l s)).take (n + 1) := by simp [keys, List.map_take]
  rw [this]
  have e : keys key (all key l s) = key s :: (keys key l).filter (fun j => decide (j ≠ key s)) := by
    show key s :: keys key (without key l (key s)) = _
    rw [keys_without]
  rw [e, h]
  exact touch_take (nodup_firsts r) (key s) n

/-- what was touched, got: the keys that are there. -/
theorem keys_got {l : List σ} {r : List κ} {n : Nat} (hl : Right key l) (h : keys key l = (firsts r).take (n + 1)) {x : σ} (hx : x ∈ l) :
    keys key (x :: without key l (key x)) = (firsts (key x :: r)).take (n + 1) := by
  rw [← keys_put h x]
  congr 1
  have h1 : (x :: without key l (key x)).length = l.length := length_got hl hx
  have h2 : l.length ≤ n + 1 := by
    have : (keys key l).length ≤ n + 1 := by rw [h]; simp [List.length_take]; omega
    simpa [keys] using this
  exact (List.take_of_length_le (by show (x :: without key l (key x)).length ≤ n + 1; omega)).symm

/-! ### less room, and more -/

/-- the one list stands ahead in the other one. -/
theorem prefix_without {a b : List σ} (h : keys key a <+: keys key b) (k : κ) : keys key (without key a k) <+: keys key (without key b k) := by
  rw [keys_without, keys_without]
  obtain ⟨r, hr⟩ := h
  rw [← hr, List.filter_append]
  exact List.prefix_append _ _

theorem prefix_take {α : Type} {a b : List α} (h : a <+: b) {n m : Nat} (hn : n ≤ m) : a.take n <+: b.take m := by
  obtain ⟨r, rfl⟩ := h
  have e : a.take n = (a.take m).take n := by
    rw [List.take_take, Nat.min_eq_left hn]
  rw [List.take_append, e]
  exact (List.take_prefix n _).trans (List.prefix_append _ _)

theorem prefix_cons {α : Type} {a b : List α} (x : α) (h : a <+: b) : (x :: a) <+: (x :: b) := by
  obtain ⟨r, rfl⟩ := h
  exact ⟨r, rfl⟩

end

/-! ### what each law needs -/
section
variable {σ κ : Type} {key : σ → κ} [DecidableEq κ]

/-- what is found by a key in a list that is right. -/
theorem find_some {l : List σ} {k : κ} {x : σ} (h : l.find? (fun s => decide (key s = k)) = some x) : x ∈ l ∧ key x = k :=
  ⟨List.mem_of_find?_eq_some h, by simpa using List.find?_some h⟩
theorem find_none {l : List σ} {k : κ} (h : l.find? (fun s => decide (key s = k)) = none) : k ∉ keys key l := by
  intro hm
  obtain ⟨x, hx, e⟩ := mem_keys.mp hm
  have := List.find?_eq_none.mp h x hx
  simp [e] at this
theorem find_of {l : List σ} (hl : Right key l) {x : σ} (hx : x ∈ l) : l.find? (fun s => decide (key s = key x)) = some x := by
  cases h : l.find? (fun s => decide (key s = key x)) with
  | none => exact absurd (mem_keys.mpr ⟨x, hx, rfl⟩) (find_none h)
  | some y =>
    obtain ⟨hy, e⟩ := find_some h
    rw [hl.same hy hx e]

end

section
variable {σ κ : Type} {key : σ → κ} [DecidableEq κ]
theorem Right.got {l : List σ} (h : Right key l) (x : σ) : Right key (x :: P13.without key l (key x)) := h.all x
end

section
variable {σ κ : Type} {key : σ → κ}
theorem stack_there {a b : List σ} (h : keys key a <+: keys key b) {k : κ} (hk : k ∈ keys key a) : k ∈ keys key b := h.subset hk
end

section
variable {σ κ : Type} {key : σ → κ} [DecidableEq κ] [DecidableEq σ]
/-- how often a slot that was there stands in what there is when another one is put. -/
theorem count_all {l : List σ} (h : Right key l) {x : σ} (hx : x ∈ l) (s : σ) (hk : key x ≠ key s) : (all key l s).count x = 1 := by
  have hn : (all key l s).Nodup := (h.all s).nodup
  have hm : x ∈ all key l s := mem_all.mpr (.inr ⟨hx, hk⟩)
  rw [hn.count]; simp [hm]
theorem count_got {l : List σ} (h : Right key l) {x y : σ} (hx : x ∈ l) (hy : y ∈ l) : (x :: without key l (key x)).count y = 1 := by
  have hn : (x :: without key l (key x)).Nodup := (h.got x).nodup
  have hm : y ∈ x :: without key l (key x) := by
    by_cases e : key y = key x
    · rw [h.same hy hx e]; exact List.mem_cons_self ..
    · exact List.mem_cons_of_mem _ (mem_without.mpr ⟨hy, e⟩)
  rw [hn.count]; simp [hm]
end

section
variable {σ κ : Type} {key : σ → κ} [DecidableEq κ]
theorem drop_all_again {l : List σ} {s : σ} {n : Nat} (hn : 0 < n) : (all key ((all key l s).take n) s).drop n = [] := by
  rw [all_take_again hn]
  exact List.drop_eq_nil_of_le (by simp [List.length_take]; omega)
theorem take_all_again {l : List σ} {s : σ} {n : Nat} (hn : 0 < n) : (all key ((all key l s).take n) s).take n = (all key l s).take n := by
  rw [all_take_again hn, List.take_take]; simp
theorem find_put {l : List σ} {s : σ} {n : Nat} (hn : 0 < n) : ((all key l s).take n).find? (fun x => decide (key x = key s)) = some s := by
  obtain ⟨m, rfl⟩ : ∃ m, n = m + 1 := ⟨n - 1, by omega⟩
  simp [all, List.take_succ_cons]
theorem got_put {l : List σ} {s : σ} {n : Nat} (hn : 0 < n) : s :: without key ((all key l s).take n) (key s) = (all key l s).take n := by
  have := all_take_again (key := key) (l := l) (s := s) hn
  exact this

/-! less room, and more -/
theorem stack_put {a b : List σ} (h : keys key a <+: keys key b) (s t : σ) (e : key s = key t) {n m : Nat} (hn : n ≤ m) : keys key ((all key a s).take n) <+: keys key ((all key b t).take m) := by
  have h1 : keys key ((all key a s).take n) = (key s :: keys key (without key a (key s))).take n := by simp [keys, all, List.map_take]
  have h2 : keys key ((all key b t).take m) = (key s :: keys key (without key b (key s))).take m := by simp [keys, all, List.map_take, e]
  rw [h1, h2]
  exact prefix_take (prefix_cons _ (prefix_without h _)) hn
theorem stack_got {a b : List σ} (h : keys key a <+: keys key b) {x y : σ} (e : key x = key y) : keys key (x :: without key a (key x)) <+: keys key (y :: without key b (key x)) := by
  show key x :: keys key (without key a (key x)) <+: key y :: keys key (without key b (key x))
  rw [← e]
  exact prefix_cons _ (prefix_without h _)
/-- who has less room has it not, and puts it; who has more has it. -/
theorem stack_mixed {a b : List σ} (h : keys key a <+: keys key b) (s y : σ) (e : key s = key y) (n : Nat) : keys key ((all key a s).take n) <+: keys key (y :: without key b (key s)) := by
  have h1 : keys key ((all key a s).take n) = (key s :: keys key (without key a (key s))).take n := by simp [keys, all, List.map_take]
  have h2 : keys key (y :: without key b (key s)) = key s :: keys key (without key b (key s)) := by simp [keys, e]
  rw [h1, h2]
  exact (List.take_prefix n _).trans (prefix_cons _ (prefix_without h _))

/-! the order -/
/-- the first ones of the keys that were touched, sought one by one from the last one on. -/
def pickUp (n : Nat) : List κ → List κ → List κ
  | [], w => w
  | k :: r, w => if w.length < n then pickUp n r (if k ∈ w then w else w ++ [k]) else w
theorem filter_firsts (w r : List κ) (k : κ) : (firsts (k :: r)).filter (fun j => decide (j ∉ w)) = if k ∈ w then (firsts r).filter (fun j => decide (j ∉ w)) else k :: (firsts r).filter (fun j => decide (j ∉ w ++ [k])) := by
  by_cases h : k ∈ w
  · rw [if_pos h]
    simp only [firsts]
    rw [List.filter_cons_of_neg (by simp [h]), List.filter_filter]
    congr 1
    funext j
    by_cases hj : j ∈ w
    · simp [hj]
    · have : j ≠ k := fun e => hj (e ▸ h)
      simp [hj, this]
  · rw [if_neg h]
    simp only [firsts]
    rw [List.filter_cons_of_pos (by simp [h]), List.filter_filter]
    congr 2
    funext j
    simp [List.mem_append, Bool.and_comm]
theorem pickUp_eq (n : Nat) : ∀ (r w : List κ), w.length ≤ n → pickUp n r w = (w ++ (firsts r).filter (fun j => decide (j ∉ w))).take n
  | [], w, hw => by simp [pickUp, firsts, List.take_of_length_le hw]
  | k :: r, w, hw => by
    rw [pickUp]
    by_cases h : w.length < n
    · rw [if_pos h, filter_firsts]
      by_cases hk : k ∈ w
      · rw [if_pos hk, if_pos hk, pickUp_eq n r w hw]
      · rw [if_neg hk, if_neg hk, pickUp_eq n r (w ++ [k]) (by simp; omega)]
        simp
    · rw [if_neg h]
      have : w.length = n := by omega
      rw [List.take_append_of_le_length (by omega), List.take_of_length_le (by omega)]
theorem pickUp_firsts (n : Nat) (r : List κ) : pickUp n r [] = (firsts r).take n := by
  rw [pickUp_eq n r [] (by simp), List.filter_eq_self.2 (by simp)]
  rfl
end
end P13
