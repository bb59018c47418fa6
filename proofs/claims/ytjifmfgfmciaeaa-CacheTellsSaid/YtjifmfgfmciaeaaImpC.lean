/-
  Package lru: find, and Right: what each returns; nothing that was there is changed.
-/
import Derived.Test.YtjifmfgfmciaeaaImpB
import Derived.Maps.OwnSet
import Derived.Maps.Ext
import Derived.DeepKeys4
import Derived.MapViews
import Derived.Lib.SmallJoins
namespace Go.Proofs.Ytjifmfgfmciaeaa
open Go.RowKit Go.Maps Go.WideMaps

theorem keys_take_snoc {L : List Sl} {i : Nat} {x : Sl} (h : L[i]? = some x) : keysL (L.take (i + 1)) = keysL (L.take i) ++ [(x.sum, x.len)] := by
  obtain ⟨hk, rfl⟩ := List.getElem?_eq_some_iff.1 h
  unfold keysL
  rw [List.take_succ_eq_append_getElem hk, P13.keys_append]
  rfl

/-! ### a map by keys of slots -/
theorem laid_prog : laidOutB Try.prog = true := by kernel_rfl
theorem row_key : (61 : TypeId) < Try.prog.types.size := of_decide_eq_true (by kernel_rfl)
theorem wide_key : (match Try.prog.underlying 61 with | some (.array _ _) | some (.struct _) => true | _ => false) = true := by kernel_rfl
theorem law_key : Keyed Try.prog 61 := Keyed.of_law (deep_law_laid laid_prog (m := 2) (by omega) row_key (by kernel_rfl) wide_key)
/-- what a key reads as -/
def keyL (k : Int × Int) : Lit := (DataW.agg (H := Unit) [.lit (.int .u64 k.1), .lit (.int .i64 k.2)]).asKey
def FitK (k : Int × Int) : Prop := (Lit.int .u64 k.1).wf = true ∧ (Lit.int .i64 k.2).wf = true
theorem key_reads (k : Int × Int) (h : FitK k) : keyOf Try.prog 61 (.agg #[.int .u64 k.1, .int .i64 k.2]) = some (keyL k) := by
  obtain ⟨h1, h2⟩ := h
  have t0 : DataW.trod (fun _ => ()) Try.prog (World.settled Try.prog default) 0 (fun _ => true) true 1 59 [.int .u64 k.1] = some (.lit (.int .u64 k.1), []) := by simp [DataW.trod, Try.underlying59, h1]
  have t1 : DataW.trod (fun _ => ()) Try.prog (World.settled Try.prog default) 0 (fun _ => true) true 1 3 [.int .i64 k.2] = some (.lit (.int .i64 k.2), []) := by simp [DataW.trod, Try.underlying3, h2]
  have := Go.Joins.shut_agg2 (t := 61) Try.underlying61 (by kernel_rfl) (by kernel_rfl) ⟨1, t0⟩ ⟨1, t1⟩
  exact (keyOf_asKey (by kernel_rfl) wide_key (by kernel_rfl) this).1
theorem keyL_inj {k p : Int × Int} (hk : FitK k) (hp : FitK p) (e : keyL k = keyL p) : k = p := by
  have h1 := key_reads k hk
  rw [e] at h1
  have := law_key.inj h1 (key_reads p hp)
  injection this with this
  have h2 := congrArg (fun a : Array Value => a.toList) this
  simp at h2
  exact Prod.ext h2.1 h2.2
/-- the map of keys that are known -/
def Known (K : List (Int × Int)) (D : DataW Unit) : Prop := ∀ k, FitK k → D.atKey (keyL k) (.lit (.bool false)) = .lit (.bool (decide (k ∈ K)))
theorem Known.nil : Known [] (.map []) := fun k _ => by simp [DataW.atKey]
theorem Known.put {K : List (Int × Int)} {D : DataW Unit} (h : Known K D) (hD : Maps.IsMap D) (p : Int × Int) (hp : FitK p) : Known (K ++ [p]) (D.put (keyL p) (.lit (.bool true))) := fun k hk => by
  by_cases e : k = p
  · subst e; rw [Maps.atKey_put_same hD (law_key.key (key_reads k hk))]; simp
  · rw [Maps.atKey_put_other (fun e' => e (keyL_inj hk hp e')), h k hk]
    simp [e]
theorem zero_bool (w : World) : (zeroValue 4).run Try.prog w = .ok (.bool false) w := by kernel_rfl
set_option maxRecDepth 10000 in
theorem lookup_known {w : World} {b n : Nat} {D : DataW Unit} {K : List (Int × Int)} (hown : w.ownsMap Try.prog 61 (plainElem Try.prog 4) b n D) (hK : Known K D) (k : Int × Int) (hk : FitK k) :
    (Instr.lookup 93 (.map (some b)) (.agg #[.int .u64 k.1, .int .i64 k.2]) false).run Try.prog w = .ok (.bool (decide (k ∈ K))) w := by
  obtain ⟨v, ps, hrun, hv⟩ := hown.lookup law_key Try.underlying93 (zero_bool w) (plainElem_bool Try.underlying4 false) (key_reads k hk)
  rw [hK k hk] at hv
  have : v = .bool (decide (k ∈ K)) := by
    unfold plainElem at hv
    rw [Try.underlying4] at hv
    cases v <;> simp at hv
    rw [hv.1]
  rw [hrun, this]

theorem make_hint (n : Int) (w : World) : (Instr.makeMap 93 (some (.int .i64 n))).run Try.prog w = .ok (.map (some w.heap.size)) (w.alloc (.map #[] 0)) := by
  simp [Instr.makeMap, run_underlying Try.underlying93, asInt, asIntOf, Result.andThen]
/-- between two rounds -/
structure RightIn (w wr : World) (b : Nat) (L : List Sl) (k : Nat) (D : DataW Unit) : Prop where
  own : wr.ownsMap Try.prog 61 (plainElem Try.prog 4) b k D
  known : Known (keysL (L.take k)) D
  nodup : (keysL (L.take k)).Nodup
  below : Below w.heap.size w wr
theorem FitS.key {L : List Sl} (h : FitS L) {x : Sl} (hx : x ∈ L) : FitK x.key := (h x hx).2

set_option maxHeartbeats 2000000 in
theorem right_any (A : Option Addr) (L : List Sl) (n c : Nat) (w : World) (bo : Bool) (hbo : rightB L = bo) (ha : SlotsAt w A L) (hn : L.length = n) (h1 : L.length ≤ 1048576) (hf : FitS L) :
    Calls Try.prog 45 #[.slice A n c] w fun e w' => e = .returned (.bool bo) ∧ Below w.heap.size w w' := by
  subst hn
  have HA := Lib.hid ha
  have HF := Lib.hid hf
  have HR := Lib.hid hbo
  have hmm := make_hint
  clear ha hf hbo
  go_enter Try.func45, Try.ntmps45
  go_wp2_with fail
  have hm0 : (w.alloc (.map #[] 0)).ownsMap Try.prog 61 (plainElem (H := Unit) Try.prog 4) w.heap.size 0 (.map []) := World.ownsMap_made _ _ _ _
  have hw0 : Below w.heap.size w (w.alloc (.map #[] 0)) := (Below.refl _ _).alloc (Nat.le_refl _) _
  obtain ⟨w1, hw1⟩ : ∃ w1, w1 = w.alloc (.map #[] 0) := ⟨_, rfl⟩
  obtain ⟨g, hg⟩ : ∃ g, g = w.heap.size := ⟨_, rfl⟩
  rw [← hw1] at hm0 hw0 ⊢
  rw [← hg] at hm0 ⊢
  have hI : RightIn w w1 g L 0 (.map []) := ⟨hm0, Known.nil, List.nodup_nil, hw0⟩
  have HI0 := Lib.hid hI
  have HG : Hid (w.heap.size ≤ g) := Lib.hid (by omega)
  clear hm0 hw0 hw1 hg hmm hI
  go_loopw [11] (fun i wr => ∃ (k : Nat) (D : DataW Unit), k ≤ L.length ∧ i = .int .i64 k ∧ Hid (RightIn w wr g L k D)) (fun i _ => L.length - (intOf i).toNat)
  case atStart => exact ⟨0, _, Nat.zero_le _, rfl, HI0⟩
  case round =>
    obtain ⟨k, D, hk, rfl, HV⟩ := hrel
    by_cases g1 : k < L.length
    · obtain ⟨x, hx⟩ : ∃ x, L[k]? = some x := ⟨_, List.getElem?_eq_getElem g1⟩
      obtain ⟨a, rfl, hal, c0, c1, c2, c3, c4⟩ := slots_fields (HA.out.up HV.out.below) hx
      have HX := Lib.hid hx
      have hfk : FitK (x.sum, x.len) := HF.out.key (List.mem_of_getElem? hx)
      have hal2 : Below wr.heap.size wr (wr.alloc (.cells #[.int .u64 x.sum, .int .i64 x.len, .string x.left, .string x.right, .string x.val] 63)) := (Below.refl _ _).alloc (Nat.le_refl _) _
      have hown := HV.out.own.alloc (.cells #[.int .u64 x.sum, .int .i64 x.len, .string x.left, .string x.right, .string x.val] 63)
      have HOWN := Lib.hid hown
      have HAL := Lib.hid hal2
      have HKEY := Lib.hid (key_reads (x.sum, x.len) hfk)
      have hlk := lookup_known hown HV.out.known (x.sum, x.len) hfk
      have HFK := Lib.hid hfk
      clear hx hal2 hown hfk
      by_cases g3 : (x.sum, x.len) ∈ keysL (L.take k)
      · have hfin : bo = false := by
          obtain ⟨y, hy, hyk⟩ := P13.mem_keys.1 g3
          obtain ⟨i, hi⟩ := List.getElem?_of_mem hy
          rw [List.getElem?_take] at hi
          split at hi
          · rename_i hik
            rw [← HR.out]
            exact not_nodup HX.out hi hik hyk.symm
          · cases hi
        rw [decide_eq_true g3] at hlk
        dsimp only at hlk
        have HFIN := Lib.hid hfin
        clear g3 hfin
        go_wp2_with fail
        go_ret
        exact ⟨ret_bool HFIN.out.symm, HV.out.below.trans (HAL.out.mono HV.out.below.size)⟩
      · rw [decide_eq_false g3] at hlk
        dsimp only at hlk
        have HNI := Lib.hid g3
        clear g3
        go_wp2_with (at_mapUpdate; refine wpList_mapUpdate_own _ rfl _ _ _ 93 rfl 61 4 law_key Try.underlying93 _ g k D rfl HOWN.out (by unfold maxLen; omega) _ _ _ rfl rfl HKEY.out _ [] (plainElem_bool Try.underlying4 true) ?_; intro w2 hown2 hgrow2)
        have HOWN2 := Lib.hid hown2
        have HB2 : Hid (Below w.heap.size w w2) := Lib.hid (by
          have h := HV.out.below.trans (HAL.out.mono HV.out.below.size)
          exact h.grown hgrow2 h.size (fun b e => by injection e with e; rw [← e]; exact HG.out))
        clear hown2 hgrow2 hlk
        go_roundw
        case rel => exact ⟨k + 1, _, by omega, by go_num, Lib.hid ⟨HOWN2.out, by rw [keys_take_snoc HX.out]; exact HV.out.known.put HOWN.out.isMap _ HFK.out, nodup_take_succ HX.out HV.out.nodup HNI.out, HB2.out⟩⟩
        case measure => simp [intOf]; omega
    · have HFIN : Hid (bo = true) := Lib.hid (by rw [← HR.out]; unfold rightB; have := HV.out.nodup; rw [List.take_of_length_le (by omega)] at this; simpa using this)
      go_wp2_with fail
      go_ret
      exact ⟨ret_bool HFIN.out.symm, HV.out.below⟩

end Go.Proofs.Ytjifmfgfmciaeaa
