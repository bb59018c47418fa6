/-
  Raw deeds beside a plain account of them: plain mathematics.
-/
import Derived.Test.YtllkegonhghkcaaFls
namespace Go.Proofs.Ytllkegonhghkcaa
open Go.RowKit P15

def txR : ByteArray := ⟨#[114]⟩
/-- the text that a fill is about, by the account -/
def tau (S : Nat → Tri) (x : Fl) : Int := (S x.by_.toNat).2.1
/-- the account tells what is there -/
structure Acc (f : List Fl) (S : Nat → Tri) (i : Int) : Prop where
  good : GoodF f
  st : ∀ w : Nat, w < 8 → ((S w).1 = 0 ∧ (w : Int) ∉ P15.nums f) ∨ ((S w).1 = 1 ∧ (w : Int) ∈ bys f) ∨ ((S w).1 = 2 ∧ (w : Int) ∈ waits f)
  txt : ∀ x ∈ f, (0 ≤ tau S x ∧ tau S x < 3) ∧ x.left = textOf (tau S x) ∧ x.right = txR
  wt : ∀ x ∈ f, ∀ n ∈ x.wait, (S n.toNat).2.1 = tau S x
  ord : ∀ x ∈ f, x.wait.Pairwise fun a b => (S a.toNat).2.2 < (S b.toNat).2.2
  tm : ∀ n ∈ P15.nums f, 0 ≤ (S n.toNat).2.2 ∧ (S n.toNat).2.2 < i
theorem Acc.nil (S : Nat → Tri) (h : ∀ w, (S w).1 = 0) : Acc [] S 0 :=
  ⟨GoodF.nil, fun w _ => .inl ⟨h w, fun hn => (by cases hn)⟩, fun x hx => (by cases hx), fun x hx => (by cases hx), fun x hx => (by cases hx), fun n hn => (by cases hn)⟩
theorem bys_waits {L : List Fl} {n : Int} (hr : Right L) (h1 : n ∈ bys L) (h2 : n ∈ waits L) : False := by
  obtain ⟨x, hx, rfl⟩ := mem_bys.1 h1
  obtain ⟨y, hy, hn⟩ := mem_waits.1 h2
  obtain ⟨i, hi⟩ := List.getElem?_of_mem hx
  have hs := split_at hi
  rw [hs] at hy
  have key : ∀ z ∈ L.take i ++ L.drop (i + 1), x.by_ ∉ z.nums := fun z hz => apart_num hr.2 hi hz (List.mem_cons_self ..)
  rcases List.mem_append.1 hy with hy | hy
  · exact key y (List.mem_append_left _ hy) (List.mem_cons_of_mem _ hn)
  · rcases List.mem_cons.1 hy with rfl | hy
    · have h3 := hr.2
      rw [hs, nums_append, nums_cons] at h3
      have h4 := (List.nodup_append.1 h3).2.1
      exact (List.nodup_cons.1 h4).1 (List.mem_append_left _ hn)
    · exact key y (List.mem_append_right _ hy) (List.mem_cons_of_mem _ hn)
theorem Acc.by_iff {f : List Fl} {S : Nat → Tri} {i : Int} (h : Acc f S i) {w : Nat} (hw : w < 8) : (S w).1 = 1 ↔ (w : Int) ∈ bys f := by
  rcases h.st w hw with ⟨e, hn⟩ | ⟨e, hn⟩ | ⟨e, hn⟩
  · rw [e]; exact ⟨fun h => (by cases h), fun hm => absurd (nums_iff.2 (.inl hm)) hn⟩
  · rw [e]; exact ⟨fun _ => hn, fun _ => rfl⟩
  · rw [e]; exact ⟨fun h => (by cases h), fun hm => (bys_waits h.good.right hm hn).elim⟩
theorem Acc.wait_iff {f : List Fl} {S : Nat → Tri} {i : Int} (h : Acc f S i) {w : Nat} (hw : w < 8) : (S w).1 = 2 ↔ (w : Int) ∈ waits f := by
  rcases h.st w hw with ⟨e, hn⟩ | ⟨e, hn⟩ | ⟨e, hn⟩
  · rw [e]; exact ⟨fun h => (by cases h), fun hm => absurd (nums_iff.2 (.inr hm)) hn⟩
  · rw [e]; exact ⟨fun h => (by cases h), fun hm => (bys_waits h.good.right hn hm).elim⟩
  · rw [e]; exact ⟨fun _ => hn, fun _ => rfl⟩
theorem Acc.none_iff {f : List Fl} {S : Nat → Tri} {i : Int} (h : Acc f S i) {w : Nat} (hw : w < 8) : (S w).1 = 0 ↔ (w : Int) ∉ P15.nums f := by
  rcases h.st w hw with ⟨e, hn⟩ | ⟨e, hn⟩ | ⟨e, hn⟩
  · rw [e]; exact ⟨fun _ => hn, fun _ => rfl⟩
  · rw [e]; exact ⟨fun h => (by cases h), fun hm => absurd (nums_iff.2 (.inl hn)) hm⟩
  · rw [e]; exact ⟨fun h => (by cases h), fun hm => absurd (nums_iff.2 (.inr hn)) hm⟩
theorem Acc.later {f : List Fl} {S : Nat → Tri} {i j : Int} (h : Acc f S i) (hij : i ≤ j) : Acc f S j :=
  ⟨h.good, h.st, h.txt, h.wt, h.ord, fun n hn => by have := h.tm n hn; omega⟩
theorem textOf_inj {s t : Int} (hs : 0 ≤ s ∧ s < 3) (ht : 0 ≤ t ∧ t < 3) (h : textOf s = textOf t) : s = t := by
  have key : ∀ u : Int, 0 ≤ u → u < 3 → u = 0 ∨ u = 1 ∨ u = 2 := fun u _ _ => by omega
  have e0 : textOf 0 = ⟨#[]⟩ := by decide +kernel
  have e1 : textOf 1 = ⟨#[97]⟩ := by decide +kernel
  have e2 : textOf 2 = ⟨#[98]⟩ := by decide +kernel
  have n1 : ¬ ((⟨#[]⟩ : ByteArray) = ⟨#[97]⟩) := by decide +kernel
  have n2 : ¬ ((⟨#[]⟩ : ByteArray) = ⟨#[98]⟩) := by decide +kernel
  have n3 : ¬ ((⟨#[97]⟩ : ByteArray) = ⟨#[98]⟩) := by decide +kernel
  rcases key s hs.1 hs.2 with rfl | rfl | rfl <;> rcases key t ht.1 ht.2 with rfl | rfl | rfl <;> first
    | rfl
    | (rw [e0, e1] at h; exact absurd h n1)
    | (rw [e0, e2] at h; exact absurd h n2)
    | (rw [e1, e0] at h; exact absurd h.symm n1)
    | (rw [e1, e2] at h; exact absurd h n3)
    | (rw [e2, e0] at h; exact absurd h.symm n2)
    | (rw [e2, e1] at h; exact absurd h.symm n3)
theorem Acc.tau_iff {f : List Fl} {S : Nat → Tri} {i : Int} (h : Acc f S i) {x : Fl} (hx : x ∈ f) {t : Int} (ht : 0 ≤ t ∧ t < 3) : x.txt = (textOf t, txR) ↔ tau S x = t := by
  obtain ⟨h1, h2, h3⟩ := h.txt x hx
  unfold Fl.txt
  rw [h2, h3]
  constructor
  · intro e
    exact textOf_inj h1 ht (congrArg Prod.fst e)
  · rintro rfl; rfl
/-- two fills about one text are one -/
theorem Acc.same {f : List Fl} {S : Nat → Tri} {i : Int} (h : Acc f S i) {x y : Fl} (hx : x ∈ f) (hy : y ∈ f) (e : tau S y = tau S x) : y = x := by
  have e1 : y.txt = x.txt := by
    obtain ⟨_, h2, h3⟩ := h.txt x hx
    obtain ⟨_, h5, h6⟩ := h.txt y hy
    unfold Fl.txt
    rw [h2, h3, h5, h6, e]
  obtain ⟨k, hk⟩ := List.getElem?_of_mem hx
  rw [split_at hk] at hy
  rcases List.mem_append.1 hy with hy | hy
  · exact absurd e1 (apart_txt h.good.right.1 hk (List.mem_append_left _ hy))
  · rcases List.mem_cons.1 hy with hy | hy
    · exact hy
    · exact absurd e1 (apart_txt h.good.right.1 hk (List.mem_append_right _ hy))
theorem Acc.nat {f : List Fl} {S : Nat → Tri} {i : Int} (h : Acc f S i) {n : Int} (hn : n ∈ P15.nums f) : n.toNat < 8 ∧ ((n.toNat : Nat) : Int) = n := by
  have := h.good.rng n hn
  omega
theorem wait_nums {f : List Fl} {x : Fl} (hx : x ∈ f) {n : Int} (hn : n ∈ x.wait) : n ∈ P15.nums f := mem_nums.2 ⟨x, hx, .inr hn⟩
theorem by_nums {f : List Fl} {x : Fl} (hx : x ∈ f) : x.by_ ∈ P15.nums f := mem_nums.2 ⟨x, hx, .inl rfl⟩
theorem wait_nodup {f : List Fl} (hr : Right f) {x : Fl} (hx : x ∈ f) : x.wait.Nodup := by
  obtain ⟨i, hi⟩ := List.getElem?_of_mem hx
  have h3 := hr.2
  rw [split_at hi, nums_append, nums_cons] at h3
  have h4 := (List.nodup_append.1 h3).2.1
  exact (List.nodup_append.1 (List.nodup_cons.1 h4).2).1

/-! ### what the account counts -/
def waitsFor (S : Nat → Tri) (t : Int) (j : Nat) : Bool := decide ((S j).1 = 2 ∧ (S j).2.1 = t)
def manyN (S : Nat → Tri) (t : Int) (k : Nat) : Nat := ((List.range k).filter (waitsFor S t)).length
theorem manyN_succ (S : Nat → Tri) (t : Int) (k : Nat) : manyN S t (k + 1) = manyN S t k + if (S k).1 = 2 ∧ (S k).2.1 = t then 1 else 0 := by
  unfold manyN
  rw [List.range_succ, List.filter_append, List.length_append]
  congr 1
  by_cases h : (S k).1 = 2 ∧ (S k).2.1 = t
  · rw [if_pos h, List.filter_cons_of_pos (by unfold waitsFor; exact decide_eq_true h)]; rfl
  · rw [if_neg h, List.filter_cons_of_neg (by unfold waitsFor; simpa using h)]; rfl
theorem manyN_le (S : Nat → Tri) (t : Int) (k : Nat) : manyN S t k ≤ k := by
  unfold manyN
  have := List.length_filter_le (waitsFor S t) (List.range k)
  rwa [List.length_range] at this
theorem Acc.many {f : List Fl} {S : Nat → Tri} {i : Int} (h : Acc f S i) {x : Fl} (hx : x ∈ f) : manyN S (tau S x) 8 = x.wait.length := by
  have hd : (x.wait.map Int.toNat).Nodup := by
    refine List.pairwise_map.2 ((wait_nodup h.good.right hx).imp_of_mem fun {a b} ha hb hne e => ?_)
    have h1 := h.nat (wait_nums hx ha)
    have h2 := h.nat (wait_nums hx hb)
    exact hne (by rw [← h1.2, ← h2.2, e])
  have hp : List.Perm ((List.range 8).filter (waitsFor S (tau S x))) (x.wait.map Int.toNat) := by
    refine (List.perm_ext_iff_of_nodup (List.nodup_range.sublist List.filter_sublist) hd).2 fun w => ?_
    rw [List.mem_filter, List.mem_range, List.mem_map]
    constructor
    · rintro ⟨hw, hf⟩
      obtain ⟨h1, h2⟩ := of_decide_eq_true hf
      obtain ⟨y, hy, hn⟩ := mem_waits.1 ((h.wait_iff hw).1 h1)
      have h3 := h.wt y hy _ hn
      rw [Int.toNat_natCast, h2] at h3
      have := h.same hx hy h3.symm
      subst this
      exact ⟨_, hn, Int.toNat_natCast w⟩
    · rintro ⟨n, hn, rfl⟩
      obtain ⟨h1, h2⟩ := h.nat (wait_nums hx hn)
      refine ⟨h1, decide_eq_true ⟨(h.wait_iff h1).2 (by rw [h2]; exact mem_waits.2 ⟨x, hx, hn⟩), h.wt x hx n hn⟩⟩
  have := hp.length_eq
  rw [List.length_map] at this
  exact this
def findsFor (S : Nat → Tri) (t : Int) (j : Nat) : Bool := decide ((S j).1 = 1 ∧ (S j).2.1 = t)
def busyN (S : Nat → Tri) (t : Int) (k : Nat) : Bool := (List.range k).any (findsFor S t)
theorem busyN_succ (S : Nat → Tri) (t : Int) (k : Nat) : busyN S t (k + 1) = (busyN S t k || decide ((S k).1 = 1 ∧ (S k).2.1 = t)) := by
  unfold busyN
  rw [List.range_succ, List.any_append]
  simp [findsFor]
theorem Acc.busy {f : List Fl} {S : Nat → Tri} {i : Int} (h : Acc f S i) {t : Int} (ht : 0 ≤ t ∧ t < 3) : busyN S t 8 = hasT f (textOf t) txR := by
  rw [Bool.eq_iff_iff, hasT_iff, mem_txts]
  unfold busyN
  rw [List.any_eq_true]
  constructor
  · rintro ⟨w, hw, hf⟩
    obtain ⟨h1, h2⟩ := of_decide_eq_true hf
    have hw8 := List.mem_range.1 hw
    obtain ⟨x, hx, hb⟩ := mem_bys.1 ((h.by_iff hw8).1 h1)
    refine ⟨x, hx, (h.tau_iff hx ht).2 ?_⟩
    unfold tau
    rw [hb, Int.toNat_natCast, h2]
  · rintro ⟨x, hx, e⟩
    obtain ⟨h1, h2⟩ := h.nat (by_nums hx)
    refine ⟨x.by_.toNat, List.mem_range.2 h1, decide_eq_true ⟨(h.by_iff h1).2 (by rw [h2]; exact mem_bys.2 ⟨x, hx, rfl⟩), (h.tau_iff hx ht).1 e⟩⟩

theorem waits_gone' (L : List Fl) (who : Int) : waits (gone L who) = without (waits L) who := by
  induction L with
  | nil => rfl
  | cons x L ih =>
    show without x.wait who ++ waits (gone L who) = without (x.wait ++ waits L) who
    rw [ih]; unfold without; rw [List.filter_append]
theorem waits_joined' {L : List Fl} {l r : ByteArray} {who : Int} (h : (l, r) ∈ txts L) : who ∈ waits (joined L l r who) := by
  obtain ⟨x, hx, e⟩ := mem_txts.1 h
  exact mem_waits.2 ⟨{ x with wait := x.wait ++ [who] }, List.mem_map.2 ⟨x, hx, by rw [if_pos e]⟩, by simp⟩
/-! ### what a deed does to it -/
def upd (S : Nat → Tri) (w : Nat) (z : Tri) : Nat → Tri := fun v => if v = w then z else S v
theorem upd_same (S : Nat → Tri) (w : Nat) (z : Tri) : upd S w z w = z := if_pos rfl
theorem upd_other (S : Nat → Tri) {w v : Nat} (z : Tri) (h : v ≠ w) : upd S w z v = S v := if_neg h
/-- an account in which some are about nothing -/
structure Zeroed (S S' : Nat → Tri) (l : List Int) : Prop where
  gone : ∀ n ∈ l, (S' n.toNat).1 = 0
  kept : ∀ w : Nat, (w : Int) ∉ l → S' w = S w
  snd : ∀ w, (S' w).2 = (S w).2
theorem Zeroed.refl (S : Nat → Tri) : Zeroed S S [] := ⟨fun n hn => (by cases hn), fun _ _ => rfl, fun _ => rfl⟩
theorem Zeroed.more {S S' : Nat → Tri} {l : List Int} (h : Zeroed S S' l) {w : Nat} : Zeroed S (upd S' w (0, (S' w).2)) (l ++ [(w : Int)]) := by
  refine ⟨fun n hn => ?_, fun v hv => ?_, fun v => ?_⟩
  · by_cases e : n.toNat = w
    · rw [e, upd_same]
    · rw [upd_other _ _ e]
      rcases List.mem_append.1 hn with hn | hn
      · exact h.gone n hn
      · rw [List.mem_singleton.1 hn, Int.toNat_natCast] at e; exact absurd rfl e
  · have h1 : v ≠ w := fun e => hv (by rw [e]; simp)
    rw [upd_other _ _ h1]
    exact h.kept v fun hm => hv (List.mem_append_left _ hm)
  · by_cases e : v = w
    · rw [e, upd_same]; exact h.snd w
    · rw [upd_other _ _ e]; exact h.snd v
theorem Zeroed.tau {S S' : Nat → Tri} {l : List Int} (h : Zeroed S S' l) (x : Fl) : tau S' x = tau S x := by
  unfold Go.Proofs.Ytllkegonhghkcaa.tau; rw [h.snd]
theorem Acc.done {f : List Fl} {S S' : Nat → Tri} {i : Int} (h : Acc f S i) {x : Fl} (hx : x ∈ f) {l : List Int} (hz : Zeroed S S' l) (hl : ∀ n, n ∈ l ↔ n ∈ x.nums) : Acc (ended f x.by_) S' (i + 1) := by
  have hsub := (sub_ended f x.by_).subset
  obtain ⟨k, hk⟩ := List.getElem?_of_mem hx
  have hend := ended_at h.good.right.2 hk rfl
  have hap : ∀ y ∈ ended f x.by_, ∀ n ∈ x.nums, n ∉ y.nums := fun y hy n hn => by
    rw [hend] at hy; exact apart_num h.good.right.2 hk hy hn
  have hout : ∀ n ∈ x.nums, n ∉ P15.nums (ended f x.by_) := fun n hn hm => by
    obtain ⟨y, hy, hny⟩ := List.mem_flatMap.1 hm
    exact hap y hy n hn hny
  refine ⟨h.good.ended _, fun w hw => ?_, fun y hy => ?_, fun y hy n hn => ?_, fun y hy => ?_, fun n hn => ?_⟩
  · by_cases hwx : (w : Int) ∈ x.nums
    · left
      refine ⟨?_, hout _ hwx⟩
      have := hz.gone _ ((hl _).2 hwx)
      rwa [Int.toNat_natCast] at this
    · rw [hz.kept w fun hm => hwx ((hl _).1 hm)]
      have hnb : (w : Int) ∈ bys f → (w : Int) ∈ bys (ended f x.by_) := fun hm => by
        obtain ⟨y, hy, e⟩ := mem_bys.1 hm
        refine mem_bys.2 ⟨y, List.mem_filter.2 ⟨hy, decide_eq_true fun e2 => hwx ?_⟩, e⟩
        rw [← e, e2]; exact List.mem_cons_self ..
      have hnw : (w : Int) ∈ waits f → (w : Int) ∈ waits (ended f x.by_) := fun hm => by
        obtain ⟨y, hy, hn⟩ := mem_waits.1 hm
        refine mem_waits.2 ⟨y, List.mem_filter.2 ⟨hy, decide_eq_true fun e2 => hwx ?_⟩, hn⟩
        rw [split_at hk] at hy
        rcases List.mem_append.1 hy with hy | hy
        · exact (apart_num h.good.right.2 hk (List.mem_append_left _ hy) (n := x.by_) (List.mem_cons_self ..) (by rw [← e2]; exact List.mem_cons_self ..)).elim
        · rcases List.mem_cons.1 hy with rfl | hy
          · exact List.mem_cons_of_mem _ hn
          · exact (apart_num h.good.right.2 hk (List.mem_append_right _ hy) (n := x.by_) (List.mem_cons_self ..) (by rw [← e2]; exact List.mem_cons_self ..)).elim
      rcases h.st w hw with ⟨e, hn⟩ | ⟨e, hn⟩ | ⟨e, hn⟩
      · exact .inl ⟨e, fun hm => hn ((nums_sub (sub_ended f x.by_)).subset hm)⟩
      · exact .inr (.inl ⟨e, hnb hn⟩)
      · exact .inr (.inr ⟨e, hnw hn⟩)
  · rw [hz.tau]; exact h.txt y (hsub hy)
  · rw [hz.tau, hz.snd]; exact h.wt y (hsub hy) n hn
  · refine (h.ord y (hsub hy)).imp fun {a b} hab => ?_
    rw [hz.snd, hz.snd]; exact hab
  · have := h.tm n ((nums_sub (sub_ended f x.by_)).subset hn)
    rw [hz.snd]; omega
theorem Acc.leave {f : List Fl} {S : Nat → Tri} {i : Int} (h : Acc f S i) {w : Nat} (hw : (w : Int) ∈ waits f) : Acc (gone f (w : Int)) (upd S w (0, (S w).2)) (i + 1) := by
  have hz : Zeroed S (upd S w (0, (S w).2)) ([] ++ [(w : Int)]) := (Zeroed.refl S).more
  have htau : ∀ (y : Fl) (ws : List Int), tau S ({ y with wait := ws } : Fl) = tau S y := fun _ _ => rfl
  refine ⟨h.good.gone _, fun v hv => ?_, fun y hy => ?_, fun y hy n hn => ?_, fun y hy => ?_, fun n hn => ?_⟩
  · by_cases e : v = w
    · subst e
      left
      rw [upd_same]
      refine ⟨rfl, fun hm => ?_⟩
      rcases nums_iff.1 hm with hm | hm
      · unfold gone at hm
        rw [bys_map (f := fun x => { x with wait := without x.wait (v : Int) }) fun _ _ => rfl] at hm
        exact bys_waits h.good.right hm hw
      · rw [waits_gone'] at hm
        exact (of_decide_eq_true (List.mem_filter.1 hm).2) rfl
    · rw [upd_other _ _ e]
      rcases h.st v hv with ⟨e1, hn⟩ | ⟨e1, hn⟩ | ⟨e1, hn⟩
      · exact .inl ⟨e1, fun hm => hn (mem_gone hm)⟩
      · refine .inr (.inl ⟨e1, ?_⟩)
        unfold gone
        rw [bys_map (f := fun x => { x with wait := without x.wait (w : Int) }) fun _ _ => rfl]
        exact hn
      · refine .inr (.inr ⟨e1, ?_⟩)
        rw [waits_gone']
        exact List.mem_filter.2 ⟨hn, decide_eq_true (by omega)⟩
  · obtain ⟨x, hx, rfl⟩ := List.mem_map.1 hy
    rw [hz.tau]; exact h.txt x hx
  · obtain ⟨x, hx, rfl⟩ := List.mem_map.1 hy
    rw [hz.tau, hz.snd]; exact h.wt x hx n (List.mem_filter.1 hn).1
  · obtain ⟨x, hx, rfl⟩ := List.mem_map.1 hy
    refine ((h.ord x hx).sublist List.filter_sublist).imp fun {a b} hab => ?_
    rw [hz.snd, hz.snd]; exact hab
  · have := h.tm n (mem_gone hn)
    rw [hz.snd]; omega
theorem Acc.join {f : List Fl} {S : Nat → Tri} {i : Int} (h : Acc f S i) {w : Nat} (hw8 : w < 8) (hw : (w : Int) ∉ P15.nums f) {t : Int} (ht : 0 ≤ t ∧ t < 3) (hi : 0 ≤ i) (hT : (textOf t, txR) ∈ txts f) : Acc (joined f (textOf t) txR (w : Int)) (upd S w (2, t, i)) (i + 1) := by
  have hold : ∀ n ∈ P15.nums f, upd S w (2, t, i) n.toNat = S n.toNat := fun n hn => upd_other _ _ fun e => hw (by have := (h.nat hn).2; rw [e] at this; rw [this]; exact hn)
  have hj : ∀ y ∈ joined f (textOf t) txR (w : Int), ∃ x ∈ f, (x.txt = (textOf t, txR) ∧ y = { x with wait := x.wait ++ [(w : Int)] }) ∨ (x.txt ≠ (textOf t, txR) ∧ y = x) := fun y hy => by
    obtain ⟨x, hx, rfl⟩ := List.mem_map.1 hy
    by_cases e : x.txt = (textOf t, txR)
    · exact ⟨x, hx, .inl ⟨e, if_pos e⟩⟩
    · exact ⟨x, hx, .inr ⟨e, if_neg e⟩⟩
  have htx : ∀ x ∈ f, tau (upd S w (2, t, i)) x = tau S x := fun x hx => by unfold tau; rw [hold _ (by_nums hx)]
  refine ⟨h.good.joined hw ⟨by omega, by omega⟩, fun v hv => ?_, fun y hy => ?_, fun y hy n hn => ?_, fun y hy => ?_, fun n hn => ?_⟩
  · by_cases e : v = w
    · subst e
      rw [upd_same]
      exact .inr (.inr ⟨rfl, waits_joined' hT⟩)
    · rw [upd_other _ _ e]
      rcases h.st v hv with ⟨e1, hn⟩ | ⟨e1, hn⟩ | ⟨e1, hn⟩
      · refine .inl ⟨e1, fun hm => ?_⟩
        rcases mem_joined hm with hm | hm
        · exact hn hm
        · exact e (by omega)
      · refine .inr (.inl ⟨e1, ?_⟩)
        unfold joined
        rw [bys_map fun x _ => by split <;> rfl]
        exact hn
      · refine .inr (.inr ⟨e1, ?_⟩)
        obtain ⟨x, hx, hnx⟩ := mem_waits.1 hn
        refine mem_waits.2 ⟨if x.txt = (textOf t, txR) then { x with wait := x.wait ++ [(w : Int)] } else x, List.mem_map.2 ⟨x, hx, rfl⟩, ?_⟩
        split
        · exact List.mem_append_left _ hnx
        · exact hnx
  · obtain ⟨x, hx, ⟨_, rfl⟩ | ⟨_, rfl⟩⟩ := hj y hy
    · show (0 ≤ tau (upd S w (2, t, i)) x ∧ tau (upd S w (2, t, i)) x < 3) ∧ x.left = textOf (tau (upd S w (2, t, i)) x) ∧ x.right = txR
      rw [htx x hx]; exact h.txt x hx
    · rw [htx _ hx]; exact h.txt _ hx
  · obtain ⟨x, hx, ⟨e, rfl⟩ | ⟨_, rfl⟩⟩ := hj y hy
    · show _ = tau (upd S w (2, t, i)) x
      rw [htx x hx]
      rcases List.mem_append.1 hn with hn | hn
      · rw [hold n (wait_nums hx hn)]; exact h.wt x hx n hn
      · rw [List.mem_singleton.1 hn, Int.toNat_natCast, upd_same]
        exact ((h.tau_iff hx ht).1 e).symm
    · rw [htx _ hx, hold n (wait_nums hx hn)]; exact h.wt _ hx n hn
  · obtain ⟨x, hx, ⟨e, rfl⟩ | ⟨_, rfl⟩⟩ := hj y hy
    · show (x.wait ++ [(w : Int)]).Pairwise _
      refine List.pairwise_append.2 ⟨(h.ord x hx).imp_of_mem fun {a b} ha hb hab => ?_, List.pairwise_singleton _ _, fun a ha b hb => ?_⟩
      · rw [hold a (wait_nums hx ha), hold b (wait_nums hx hb)]; exact hab
      · rw [List.mem_singleton.1 hb, Int.toNat_natCast, upd_same, hold a (wait_nums hx ha)]
        exact (h.tm a (wait_nums hx ha)).2
    · refine (h.ord _ hx).imp_of_mem fun {a b} ha hb hab => ?_
      rw [hold a (wait_nums hx ha), hold b (wait_nums hx hb)]; exact hab
  · rcases mem_joined hn with hn | rfl
    · have := h.tm n hn
      rw [hold n hn]; omega
    · rw [Int.toNat_natCast, upd_same]
      exact ⟨hi, by show i < i + 1; omega⟩
theorem Acc.new {f : List Fl} {S : Nat → Tri} {i : Int} (h : Acc f S i) {w : Nat} (hw8 : w < 8) (hw : (w : Int) ∉ P15.nums f) {t : Int} (ht : 0 ≤ t ∧ t < 3) (hi : 0 ≤ i) (hT : (textOf t, txR) ∉ txts f) : Acc (f ++ [⟨textOf t, txR, (w : Int), []⟩]) (upd S w (1, t, i)) (i + 1) := by
  have hold : ∀ n ∈ P15.nums f, upd S w (1, t, i) n.toNat = S n.toNat := fun n hn => upd_other _ _ fun e => hw (by have := (h.nat hn).2; rw [e] at this; rw [this]; exact hn)
  have htx : ∀ x ∈ f, tau (upd S w (1, t, i)) x = tau S x := fun x hx => by unfold tau; rw [hold _ (by_nums hx)]
  have htn : tau (upd S w (1, t, i)) ⟨textOf t, txR, (w : Int), []⟩ = t := by unfold tau; rw [Int.toNat_natCast, upd_same]
  have hnm : ∀ n ∈ P15.nums (f ++ [⟨textOf t, txR, (w : Int), []⟩]), n ∈ P15.nums f ∨ n = (w : Int) := fun n hn => by
    rw [nums_append] at hn
    rcases List.mem_append.1 hn with hn | hn
    · exact .inl hn
    · exact .inr (by simpa [P15.nums, Fl.nums] using hn)
  have hmem : ∀ y ∈ f ++ [⟨textOf t, txR, (w : Int), []⟩], y ∈ f ∨ y = ⟨textOf t, txR, (w : Int), []⟩ := fun y hy => by
    rcases List.mem_append.1 hy with hy | hy
    · exact .inl hy
    · exact .inr (List.mem_singleton.1 hy)
  refine ⟨h.good.new hw ⟨by omega, by omega⟩ hT (textOf_size _) (by decide), fun v hv => ?_, fun y hy => ?_, fun y hy n hn => ?_, fun y hy => ?_, fun n hn => ?_⟩
  · by_cases e : v = w
    · subst e
      rw [upd_same]
      exact .inr (.inl ⟨rfl, mem_bys.2 ⟨⟨textOf t, txR, (v : Int), []⟩, by simp, rfl⟩⟩)
    · rw [upd_other _ _ e]
      rcases h.st v hv with ⟨e1, hn⟩ | ⟨e1, hn⟩ | ⟨e1, hn⟩
      · refine .inl ⟨e1, fun hm => ?_⟩
        rcases hnm _ hm with hm | hm
        · exact hn hm
        · exact e (by omega)
      · obtain ⟨x, hx, ex⟩ := mem_bys.1 hn
        exact .inr (.inl ⟨e1, mem_bys.2 ⟨x, List.mem_append_left _ hx, ex⟩⟩)
      · obtain ⟨x, hx, ex⟩ := mem_waits.1 hn
        exact .inr (.inr ⟨e1, mem_waits.2 ⟨x, List.mem_append_left _ hx, ex⟩⟩)
  · rcases hmem y hy with hy | rfl
    · rw [htx y hy]; exact h.txt y hy
    · rw [htn]; exact ⟨ht, rfl, rfl⟩
  · rcases hmem y hy with hy | rfl
    · rw [htx y hy, hold n (wait_nums hy hn)]; exact h.wt y hy n hn
    · cases hn
  · rcases hmem y hy with hy | rfl
    · refine (h.ord y hy).imp_of_mem fun {a b} ha hb hab => ?_
      rw [hold a (wait_nums hy ha), hold b (wait_nums hy hb)]; exact hab
    · exact List.Pairwise.nil
  · rcases hnm n hn with hn | rfl
    · have := h.tm n hn
      rw [hold n hn]; omega
    · rw [Int.toNat_natCast, upd_same]
      exact ⟨hi, by show i < i + 1; omega⟩

end Go.Proofs.Ytllkegonhghkcaa
