/-
  Plain mathematics of CacheAgain: what has just been put is there, if its part has room, and is got again; with no bits all texts of one length are one key, and with all of them those here are not.
-/
import Derived.Test.YtjifmfgfmciaeaaPrP
namespace Go.Proofs.Ytjifmfgfmciaeaa

theorem newT_size : (⟨#[110, 101, 119]⟩ : ByteArray).size ≤ 4096 := by decide
theorem vT_size : (⟨#[118]⟩ : ByteArray).size ≤ 4096 := by decide
/-- a slot that stands first is brought to the front: nothing is changed -/
theorem front_same {x : Sl} {L : List Sl} (h : rightB (x :: L) = true) : x :: withoutS (x :: L) x.key = x :: L := by
  have hn : (keysL (x :: L)).Nodup := rightB_iff.1 h
  unfold keysL P13.keys at hn
  rw [List.map_cons, List.nodup_cons] at hn
  congr 1
  unfold withoutS P13.without
  rw [List.filter_cons, if_neg (by simp)]
  rw [List.filter_eq_self]
  intro s hs
  have : s.key ≠ x.key := fun e => hn.1 (List.mem_map.2 ⟨s, hs, e⟩)
  simpa using this
/-- what has just been put, and is asked for -/
structure Again (d f h : Ca) (s t : ByteArray) (e1 e2 : Int) : Prop where
  code : e1 = e2
  text : s = t
  said : (e1 = 0 ∧ s = ⟨#[110, 101, 119]⟩) ∨ (e1 = 10 ∧ s = ⟨#[]⟩)
  same : ({ h with hits := d.hits, misses := d.misses } : Ca) = d
theorem again_put {c d f h : Ca} {l r s t : ByteArray} {e0 e1 e2 : Int} (hc : RightC c) (hp : putC c l r ⟨#[110, 101, 119]⟩ = (d, e0)) (h1 : getC d l r = (s, f, e1)) (h2 : getC f l r = (t, h, e2)) :
    Again d f h s t e1 e2 ∧ (c.parts.length ≤ c.room → e1 = 0) := by
  have hn := Ca.num_lt hc l r
  have hd : RightC d := by have := right_put hc l r ⟨#[110, 101, 119]⟩; rwa [hp] at this
  have hf : RightC f := by have := right_get hd l r; rwa [h1] at this
  have hfat : f.at_ l r = d.at_ l r := by have := at_got hd l r l r; rwa [h1] at this
  have htold := get_told hf hd hfat
  rw [h1, h2] at htold
  have hat := at_put_same hc l r ⟨#[110, 101, 119]⟩ l r rfl
  rw [hp] at hat
  have hq := put_eq hc l r ⟨#[110, 101, 119]⟩
  rw [hp] at hq
  have hdq : d = { c with parts := c.parts.set (c.num l r) ((c.allP l r ⟨#[110, 101, 119]⟩).take (c.roomP l r)), evicted := more c.evicted ((c.allP l r ⟨#[110, 101, 119]⟩).drop (c.roomP l r)).length } := congrArg Prod.fst hq
  have hnum : d.num l r = c.num l r := by rw [hdq]; unfold Ca.num Ca.key; simp only [List.length_set]
  have hkey : d.key l r = c.key l r := by rw [hdq]; rfl
  have hpart : d.part (d.num l r) = (c.allP l r ⟨#[110, 101, 119]⟩).take (c.roomP l r) := by
    rw [hnum, hdq]
    have := part_set (c := ⟨c.width, c.room, c.parts, c.hits, c.misses, c.clashes, more c.evicted ((c.allP l r ⟨#[110, 101, 119]⟩).drop (c.roomP l r)).length⟩) (L := (c.allP l r ⟨#[110, 101, 119]⟩).take (c.roomP l r)) (j := c.num l r) hn
    rw [if_pos rfl] at this
    exact this
  by_cases hr : 0 < c.roomP l r
  · rw [if_pos hr] at hat
    have hfront : c.slot l r ⟨#[110, 101, 119]⟩ :: withoutS (d.part (d.num l r)) (d.key l r) = d.part (d.num l r) := by
      obtain ⟨n, hn'⟩ : ∃ n, c.roomP l r = n + 1 := ⟨c.roomP l r - 1, by omega⟩
      have e : d.part (d.num l r) = c.slot l r ⟨#[110, 101, 119]⟩ :: (withoutS (c.part (c.num l r)) (c.key l r)).take n := by
        rw [hpart, hn']
        rfl
      have hrt := (hd.part (d.num l r) (Ca.num_lt hd l r)).1
      rw [e] at hrt ⊢
      rw [hkey, ← slot_key c l r ⟨#[110, 101, 119]⟩]
      exact front_same hrt
    have hset : d.parts.set (d.num l r) (d.part (d.num l r)) = d.parts := by
      apply List.ext_getElem
      · simp
      · intro i h1' h2'
        rw [List.getElem_set]
        split
        · rename_i e; subst e; unfold Ca.part; rw [List.getElem?_eq_getElem h2']; rfl
        · rfl
    have hf1 : s = ⟨#[110, 101, 119]⟩ ∧ f = { d with hits := more d.hits 1 } ∧ e1 = 0 := by
      rcases get_cases hd h1 with ⟨g, _⟩ | ⟨x, g, g2, _⟩ | ⟨x, g, _, _, g3, g4, g5⟩
      · rw [g] at hat; cases hat
      · rw [g] at hat; injection hat with hat; exact absurd ⟨by rw [hat]; rfl, by rw [hat]; rfl⟩ g2
      · rw [g] at hat
        injection hat with hat
        subst hat
        rw [hfront, hset] at g4
        exact ⟨g3, g4, g5⟩
    obtain ⟨hs, hfe, he1⟩ := hf1
    have hh : h = { f with hits := more f.hits 1 } := by
      rcases get_cases hf h2 with ⟨g, _⟩ | ⟨x, g, g2, _⟩ | ⟨x, g, _, _, g3, g4, g5⟩
      · rw [hfat, hat] at g; cases g
      · rw [hfat, hat] at g; injection g with g; exact absurd ⟨by rw [← g]; rfl, by rw [← g]; rfl⟩ g2
      · rw [hfat, hat] at g
        injection g with g
        subst g
        have e1' : f.part (f.num l r) = d.part (d.num l r) := by rw [hfe]; rfl
        have e2' : f.key l r = d.key l r := by rw [hfe]; rfl
        have e3' : f.num l r = d.num l r := by rw [hfe]; rfl
        have e4' : f.parts = d.parts := by rw [hfe]
        rw [e1', e2', hfront, e3', e4', hset] at g4
        rw [g4, ← e4']
    refine ⟨⟨htold.2.symm, htold.1.symm, .inl ⟨he1, hs⟩, ?_⟩, fun _ => he1⟩
    rw [hh, hfe]
  · rw [if_neg hr] at hat
    have hf1 : s = ⟨#[]⟩ ∧ f = { d with misses := more d.misses 1 } ∧ e1 = 10 := by
      rcases get_cases hd h1 with ⟨g, g3, g4, g5⟩ | ⟨x, g, g2, _⟩ | ⟨x, g, _⟩
      · exact ⟨g3, g4, g5⟩
      · rw [g] at hat; cases hat
      · rw [g] at hat; cases hat
    obtain ⟨hs, hfe, he1⟩ := hf1
    have hh : h = { f with misses := more f.misses 1 } := by
      rcases get_cases hf h2 with ⟨g, g3, g4, g5⟩ | ⟨x, g, g2, _⟩ | ⟨x, g, _⟩
      · exact g4
      · rw [hfat, hat] at g; cases g
      · rw [hfat, hat] at g; cases g
    refine ⟨⟨htold.2.symm, htold.1.symm, .inr ⟨he1, hs⟩, ?_⟩, fun hle => ?_⟩
    · rw [hh, hfe]
    · exfalso
      apply hr
      unfold Ca.roomP roomN
      have h4 := hc.n1
      have : 1 ≤ c.room.toNat / c.parts.length := (Nat.le_div_iff_mul_le h4).2 (by omega)
      omega
/-- a cache of one part, in which one slot has been put -/
theorem one_put {w : Int} (hw : 0 ≤ w ∧ w ≤ 64) {x u : Ca} {l r p q s : ByteArray} {e0 e1 : Int} (hp : putC (newC 1 50 w).1 l r ⟨#[118]⟩ = (x, e0)) (hg : getC x p q = (s, u, e1)) :
    e0 = 0 ∧ RightC x ∧ ((bothK p q w = bothK l r w ∧ l = p ∧ r = q ∧ e1 = 0 ∧ u.clashes = 0) ∨ (bothK p q w = bothK l r w ∧ ¬ (l = p ∧ r = q) ∧ e1 = 10 ∧ u.clashes = 1) ∨ (bothK p q w ≠ bothK l r w ∧ e1 = 10 ∧ u.clashes = 0)) := by
  have hfit : fitsB 1 50 w = true := decide_eq_true ⟨by omega, by omega, by omega, by omega, hw.1, hw.2⟩
  have hr0 := right_new hfit
  have hx : RightC x := by have := right_put hr0 l r ⟨#[118]⟩; rwa [hp] at this
  have hq := put_eq hr0 l r ⟨#[118]⟩
  rw [hp] at hq
  have hc0 : (newC 1 50 w).1 = ⟨w, 50, [[]], 0, 0, 0, 0⟩ := by unfold newC; rw [if_pos hfit]; rfl
  have hcl : x.clashes = 0 := by have := congrArg (fun y : Ca × Int => y.1.clashes) hq; rw [hc0] at this; exact this
  have hk : ∀ a b, (newC 1 50 w).1.key a b = bothK a b w := fun a b => by rw [hc0]; rfl
  have hroom : 0 < (newC 1 50 w).1.roomP l r := by
    rw [hc0]
    unfold Ca.roomP roomN
    have : 0 < (50 : Int).toNat / [([] : List Sl)].length := by decide
    exact Nat.lt_of_lt_of_le this (Nat.le_add_right _ _)
  refine ⟨congrArg Prod.snd hq, hx, ?_⟩
  by_cases hkey : bothK p q w = bothK l r w
  · have hat := at_put_same hr0 l r ⟨#[118]⟩ p q (by rw [hk, hk]; exact hkey)
    rw [hp, if_pos hroom] at hat
    rcases get_cases hx hg with ⟨g, _⟩ | ⟨y, g, g2, g3, g4, g5⟩ | ⟨y, g, g2, g3, g4, g5, g6⟩
    · rw [g] at hat; cases hat
    · rw [g] at hat
      injection hat with hat
      subst hat
      exact .inr (.inl ⟨hkey, g2, g5, by rw [g4]; show more x.clashes 1 = 1; rw [hcl]; rfl⟩)
    · rw [g] at hat
      injection hat with hat
      subst hat
      exact .inl ⟨hkey, g2, g3, g6, by rw [g5]; exact hcl⟩
  · have hat : x.at_ p q = none := by
      have h0 : (newC 1 50 w).1.at_ p q = none := by
        rw [hc0]
        unfold Ca.at_ Ca.part
        cases h : (([([] : List Sl)] : List (List Sl))[(⟨w, 50, [[]], 0, 0, 0, 0⟩ : Ca).num p q]?) with
        | none => rfl
        | some L => have := List.mem_of_getElem? h; simp at this; subst this; rfl
      rcases at_put_other hr0 l r ⟨#[118]⟩ p q (by rw [hk, hk]; exact hkey) with e | e
      · rw [hp, h0] at e; exact e
      · rw [hp] at e; exact e
    rcases get_cases hx hg with ⟨g, g3, g4, g5⟩ | ⟨y, g, _⟩ | ⟨y, g, _⟩
    · exact .inr (.inr ⟨hkey, g5, by rw [g4]; exact hcl⟩)
    · rw [g] at hat; cases hat
    · rw [g] at hat; cases hat
theorem both_zero (p q l r : ByteArray) : bothK p q 0 = bothK l r 0 ↔ (l.size : Int) + (r.size : Int) = (p.size : Int) + (q.size : Int) := by
  have e : ∀ a b : ByteArray, bothK a b 0 = (0, (a.size : Int) + (b.size : Int)) := fun a b => by
    unfold bothK Sm.low
    have : Sm.pw 0 = 1 := by rfl
    rw [this, Nat.mod_one]
    rfl
  rw [e, e]
  constructor
  · intro h; have := congrArg Prod.snd h; exact this.symm
  · intro h; rw [h]
/-- what the second half of the law comes to: with all bits, and with none -/
structure Two (l r p q : ByteArray) (u v : Ca) (e1 e2 : Int) : Prop where
  said : (l = p ∧ r = q ∧ e1 = 0 ∧ e2 = 0 ∧ u.clashes = 0 ∧ v.clashes = 0) ∨ (¬ (l = p ∧ r = q) ∧ e1 = 10 ∧ e2 = 10 ∧ u.clashes = 0 ∧ ((v.clashes = 1 ∧ (l.size : Int) + (r.size : Int) = (p.size : Int) + (q.size : Int)) ∨ (v.clashes = 0 ∧ (l.size : Int) + (r.size : Int) ≠ (p.size : Int) + (q.size : Int))))
theorem textOf_small (k : Int) : ∃ a : Nat, a < 6 ∧ textOf k = textOf (a : Int) := by
  obtain ⟨h1, h2⟩ := pickI_range k 6 (by omega)
  obtain ⟨a, ha⟩ := Int.eq_ofNat_of_zero_le h1
  refine ⟨a, by omega, ?_⟩
  rw [text_at a (by omega)]
  unfold textOf
  rw [ha]
  rfl
theorem two_caches {x y u v : Ca} {k0 k1 k2 k3 : Int} {s t : ByteArray} {o1 o2 e1 e2 : Int} (hx : putC (newC 1 50 64).1 (textOf k0) (textOf k1) ⟨#[118]⟩ = (x, o1)) (hy : putC (newC 1 50 0).1 (textOf k0) (textOf k1) ⟨#[118]⟩ = (y, o2))
    (hu : getC x (textOf k2) (textOf k3) = (s, u, e1)) (hv : getC y (textOf k2) (textOf k3) = (t, v, e2)) : o1 = 0 ∧ o2 = 0 ∧ Two (textOf k0) (textOf k1) (textOf k2) (textOf k3) u v e1 e2 := by
  obtain ⟨a1, -, a2⟩ := one_put (by omega) hx hu
  obtain ⟨b1, -, b2⟩ := one_put (by omega) hy hv
  refine ⟨a1, b1, ⟨?_⟩⟩
  obtain ⟨i0, h0, t0⟩ := textOf_small k0
  obtain ⟨i1, h1, t1⟩ := textOf_small k1
  obtain ⟨i2, h2, t2⟩ := textOf_small k2
  obtain ⟨i3, h3, t3⟩ := textOf_small k3
  have hinj : bothK (textOf k2) (textOf k3) 64 = bothK (textOf k0) (textOf k1) 64 → textOf k0 = textOf k2 ∧ textOf k1 = textOf k3 := fun h => by
    rw [t0, t1, t2, t3] at h ⊢
    obtain ⟨e, e'⟩ := key_inj h2 h3 h0 h1 h
    exact ⟨by rw [e], by rw [e']⟩
  by_cases hs : textOf k0 = textOf k2 ∧ textOf k1 = textOf k3
  · left
    rcases a2 with ⟨_, _, _, c1, c2⟩ | ⟨_, g, _⟩ | ⟨g, _⟩
    · rcases b2 with ⟨_, _, _, d1, d2⟩ | ⟨_, g, _⟩ | ⟨g, _⟩
      · exact ⟨hs.1, hs.2, c1, d1, c2, d2⟩
      · exact absurd hs g
      · exact absurd (by rw [hs.1, hs.2]) g
    · exact absurd hs g
    · exact absurd (by rw [hs.1, hs.2]) g
  · right
    have hz := both_zero (textOf k2) (textOf k3) (textOf k0) (textOf k1)
    refine ⟨hs, ?_, ?_, ?_, ?_⟩
    · rcases a2 with ⟨_, g1, g2, _⟩ | ⟨g, _, c, _⟩ | ⟨_, c, _⟩
      · exact absurd ⟨g1, g2⟩ hs
      · exact c
      · exact c
    · rcases b2 with ⟨_, g1, g2, _⟩ | ⟨g, _, c, _⟩ | ⟨_, c, _⟩
      · exact absurd ⟨g1, g2⟩ hs
      · exact c
      · exact c
    · rcases a2 with ⟨_, g1, g2, _⟩ | ⟨g, _, _, _⟩ | ⟨_, _, c⟩
      · exact absurd ⟨g1, g2⟩ hs
      · exact absurd (hinj g) hs
      · exact c
    · rcases b2 with ⟨_, g1, g2, _⟩ | ⟨g, _, _, c⟩ | ⟨g, _, c⟩
      · exact absurd ⟨g1, g2⟩ hs
      · exact .inl ⟨c, hz.1 g⟩
      · exact .inr ⟨c, fun h => g (hz.2 h)⟩

end Go.Proofs.Ytjifmfgfmciaeaa
