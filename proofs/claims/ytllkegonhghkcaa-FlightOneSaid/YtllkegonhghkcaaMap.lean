/-
  Maps that a call makes: by numbers, and by two texts. What they tell. No walk.
-/
import Derived.Test.YtllkegonhghkcaaClp
import Derived.Maps.OwnSet
import Derived.Maps.Ext
import Derived.DeepKeys4
import Derived.MapViews
import Derived.Lib.SmallJoins
namespace Go.Proofs.Ytllkegonhghkcaa
open Go.RowKit Go.Maps Go.WideMaps P15

/-! ### numbers -/
theorem law_int : Keyed Try.prog 3 := int_keyed Try.underlying3
theorem i64_wf {n : Int} (h : I64 n) : (Lit.int .i64 n).wf = true := by
  have h1 : IntKind.i64.min = -9223372036854775808 := rfl
  have h2 : IntKind.i64.max = 9223372036854775807 := rfl
  simp only [Lit.wf, Bool.and_eq_true, decide_eq_true_eq]
  unfold I64 at h
  omega
theorem key_int {n : Int} (h : I64 n) : keyOf Try.prog 3 (.int .i64 n) = some (.int .i64 n) := keyOf_int_mk Try.underlying3 (i64_wf h)
/-- what each number was put for last -/
def abt (S : List (Int × Int)) (n : Int) : Int := S.foldl (fun a p => if p.1 = n then p.2 else a) 0
theorem abt_nil (n : Int) : abt [] n = 0 := rfl
theorem abt_snoc (S : List (Int × Int)) (p v n : Int) : abt (S ++ [(p, v)]) n = if p = n then v else abt S n := by
  unfold abt; rw [List.foldl_append]; rfl
def KnownA (S : List (Int × Int)) (D : DataW Unit) : Prop := ∀ n, I64 n → D.atKey (.int .i64 n) (.lit (.int .i64 0)) = .lit (.int .i64 (abt S n))
theorem KnownA.nil : KnownA [] (.map []) := fun n _ => by simp [DataW.atKey, abt_nil]
theorem KnownA.put {S : List (Int × Int)} {D : DataW Unit} (h : KnownA S D) (hD : Maps.IsMap D) (p v : Int) (hp : I64 p) : KnownA (S ++ [(p, v)]) (D.put (.int .i64 p) (.lit (.int .i64 v))) := fun n hn => by
  rw [abt_snoc]
  by_cases e : p = n
  · subst e
    rw [if_pos rfl, Maps.atKey_put_same hD (law_int.key (key_int hp))]
  · rw [if_neg e, Maps.atKey_put_other (fun e' => e (by injection e' with _ e'; exact e'.symm)), h n hn]
set_option maxRecDepth 10000 in
theorem lookup_a {w : World} {b n : Nat} {D : DataW Unit} {S : List (Int × Int)} (hown : w.ownsMap Try.prog 3 (plainElem Try.prog 3) b n D) (hK : KnownA S D) (p : Int) (hp : I64 p) :
    (Instr.lookup 52 (.map (some b)) (.int .i64 p) false).run Try.prog w = .ok (.int .i64 (abt S p)) w := by
  obtain ⟨c, hrun, hat, _⟩ := hown.lookup_int law_int Try.underlying52 Try.underlying3 (zero3 w) (key_int hp)
  rw [hK p hp] at hat
  injection hat with hat
  injection hat with _ hat
  rw [hrun, hat]
theorem make_a (n : Int) (w : World) : (Instr.makeMap 52 (some (.int .i64 n))).run Try.prog w = .ok (.map (some w.heap.size)) (w.alloc (.map #[] 0)) := by
  simp [Instr.makeMap, run_underlying Try.underlying52, asInt, asIntOf, Result.andThen]

/-! ### two texts -/
theorem laid_prog : laidOutB Try.prog = true := by kernel_rfl
theorem row_key : (67 : TypeId) < Try.prog.types.size := of_decide_eq_true (by kernel_rfl)
theorem wide_key : (match Try.prog.underlying 67 with | some (.array _ _) | some (.struct _) => true | _ => false) = true := by kernel_rfl
theorem law_key : Keyed Try.prog 67 := Keyed.of_law (deep_law_laid laid_prog (m := 2) (by omega) row_key (by kernel_rfl) wide_key)
/-- what two texts read as -/
def keyL (k : ByteArray × ByteArray) : Lit := (DataW.agg (H := Unit) [.lit (.string k.1.data.toList), .lit (.string k.2.data.toList)]).asKey
def FitK (k : ByteArray × ByteArray) : Prop := k.1.size ≤ 140737488351232 ∧ k.2.size ≤ 140737488351232
theorem key_reads (k : ByteArray × ByteArray) (h : FitK k) : keyOf Try.prog 67 (.agg #[.string k.1, .string k.2]) = some (keyL k) := by
  obtain ⟨h1, h2⟩ := h
  have m1 : k.1.size ≤ maxLen := by unfold maxLen; omega
  have m2 : k.2.size ≤ maxLen := by unfold maxLen; omega
  have t0 : DataW.trod (fun _ => ()) Try.prog (World.settled Try.prog default) 0 (fun _ => true) true 1 9 [.string k.1] = some (.lit (.string k.1.data.toList), []) := by simp [DataW.trod, Try.underlying9, m1]
  have t1 : DataW.trod (fun _ => ()) Try.prog (World.settled Try.prog default) 0 (fun _ => true) true 1 9 [.string k.2] = some (.lit (.string k.2.data.toList), []) := by simp [DataW.trod, Try.underlying9, m2]
  have := Go.Joins.shut_agg2 (t := 67) Try.underlying67 (by kernel_rfl) (by kernel_rfl) ⟨1, t0⟩ ⟨1, t1⟩
  exact (keyOf_asKey (by kernel_rfl) wide_key (by kernel_rfl) this).1
theorem keyL_inj {k p : ByteArray × ByteArray} (hk : FitK k) (hp : FitK p) (e : keyL k = keyL p) : k = p := by
  have h1 := key_reads k hk
  rw [e] at h1
  have := law_key.inj h1 (key_reads p hp)
  injection this with this
  have h2 := congrArg (fun a : Array Value => a.toList) this
  simp at h2
  exact Prod.ext h2.1 h2.2
def KnownT (K : List (ByteArray × ByteArray)) (D : DataW Unit) : Prop := (∀ k, FitK k → k ∈ K → D.atKey (keyL k) (.lit (.bool false)) = .lit (.bool true)) ∧ ∀ k, FitK k → k ∉ K → D.atKey (keyL k) (.lit (.bool false)) = .lit (.bool false)
theorem KnownT.nil : KnownT [] (.map []) := ⟨fun k _ h => (by cases h), fun k _ _ => by simp [DataW.atKey]⟩
theorem KnownT.put {K : List (ByteArray × ByteArray)} {D : DataW Unit} (h : KnownT K D) (hD : Maps.IsMap D) (p : ByteArray × ByteArray) (hp : FitK p) : KnownT (K ++ [p]) (D.put (keyL p) (.lit (.bool true))) := by
  refine ⟨fun k hk hm => ?_, fun k hk hm => ?_⟩
  · by_cases e : k = p
    · subst e; rw [Maps.atKey_put_same hD (law_key.key (key_reads k hk))]
    · rw [Maps.atKey_put_other (fun e' => e (keyL_inj hk hp e'))]
      rcases List.mem_append.1 hm with hm | hm
      · exact h.1 k hk hm
      · exact absurd (List.mem_singleton.1 hm) e
  · have e : k ≠ p := fun e => hm (by rw [e]; simp)
    rw [Maps.atKey_put_other (fun e' => e (keyL_inj hk hp e'))]
    exact h.2 k hk fun h' => hm (List.mem_append_left _ h')
theorem zero_bool (w : World) : (zeroValue 4).run Try.prog w = .ok (.bool false) w := by kernel_rfl
set_option maxRecDepth 10000 in
theorem lookup_t {w : World} {b n : Nat} {D : DataW Unit} {v0 : Bool} (hown : w.ownsMap Try.prog 67 (plainElem Try.prog 4) b n D) (k : ByteArray × ByteArray) (hk : FitK k) (hat : D.atKey (keyL k) (.lit (.bool false)) = .lit (.bool v0)) :
    (Instr.lookup 64 (.map (some b)) (.agg #[.string k.1, .string k.2]) false).run Try.prog w = .ok (.bool v0) w := by
  obtain ⟨v, ps, hrun, hv⟩ := hown.lookup law_key Try.underlying64 (zero_bool w) (plainElem_bool Try.underlying4 false) (key_reads k hk)
  rw [hat] at hv
  have : v = .bool v0 := by
    unfold plainElem at hv
    rw [Try.underlying4] at hv
    cases v <;> simp at hv
    rw [hv.1]
  rw [hrun, this]
theorem make_t (n : Int) (w : World) : (Instr.makeMap 64 (some (.int .i64 n))).run Try.prog w = .ok (.map (some w.heap.size)) (w.alloc (.map #[] 0)) := by
  simp [Instr.makeMap, run_underlying Try.underlying64, asInt, asIntOf, Result.andThen]

/-! ### what stays while some blocks change -/
structure Only (X : Nat → Prop) (w w' : World) : Prop where
  os : w'.os = w.os
  tape : w'.tape = w.tape
  output : w'.output = w.output
  size : w.heap.size ≤ w'.heap.size
  block : ∀ i, i < w.heap.size → ¬ X i → w'.heap[i]? = w.heap[i]?
section
variable {X : Nat → Prop} {w w' w2 w0 : World}
theorem Only.refl (X : Nat → Prop) (w : World) : Only X w w := ⟨rfl, rfl, rfl, Nat.le_refl _, fun _ _ _ => rfl⟩
theorem Only.trans (h : Only X w w') (h2 : Only X w' w2) : Only X w w2 := ⟨h2.os.trans h.os, h2.tape.trans h.tape, h2.output.trans h.output, Nat.le_trans h.size h2.size, fun i hi hx => (h2.block i (Nat.lt_of_lt_of_le hi h.size) hx).trans (h.block i hi hx)⟩
theorem Only.of_below (h : Below w.heap.size w w') : Only X w w' := ⟨h.os, h.tape, h.output, h.size, fun i hi _ => h.block i hi⟩
theorem Only.of_grown {row : Option Nat} (h : w.grownBy w' row) (hX : ∀ g, row = some g → X g) : Only X w w' := ⟨h.os, h.tape, h.output, h.size, fun i hi hx => h.block i hi fun e => hx (hX i e.symm)⟩
theorem Only.set (w : World) (p : Addr) (u : Value) (hp : X p.block) : Only X w (w.setCell p u) := ⟨rfl, rfl, rfl, by simp, fun i _ hx => Below.heap_setCell w p u i (by rintro rfl; exact hx hp)⟩
theorem Only.below (h : Only X w w') {n : Nat} (hb : Below n w0 w) (hn : n ≤ w.heap.size) (hX : ∀ i, X i → n ≤ i) : Below n w0 w' :=
  ⟨h.os.trans hb.os, h.tape.trans hb.tape, h.output.trans hb.output, Nat.le_trans hb.size h.size, fun i hi => (h.block i (by omega) fun hx => by have := hX i hx; omega).trans (hb.block i hi)⟩
theorem Blk.only {g : Nat} {t : TypeId} {cs : Array Value} (h : Blk w g t cs) (ho : Only X w w') (hx : ¬ X g) : Blk w' g t cs := (ho.block g h.lt hx).trans h
theorem map_lt {H : Type} {k : TypeId} {R : Value → Option (DataW H × List MemPlace)} {b n : Nat} {D : DataW H} (h : w.ownsMap Try.prog k R b n D) : b < w.heap.size := by
  obtain ⟨es, clock, hb, _⟩ := h
  rcases Nat.lt_or_ge b w.heap.size with hlt | hge
  · exact hlt
  · rw [Array.getElem?_eq_none hge] at hb; cases hb
theorem map_only {H : Type} {k : TypeId} {R : Value → Option (DataW H × List MemPlace)} {b n : Nat} {D : DataW H} (h : w.ownsMap Try.prog k R b n D) (ho : Only X w w') (hx : ¬ X b) : w'.ownsMap Try.prog k R b n D := by
  have hlt := map_lt h
  obtain ⟨es, clock, hb, F, hs, hD⟩ := h
  exact ⟨es, clock, (ho.block b hlt hx).trans hb, F, hs, hD⟩
theorem map_ne {H : Type} {k : TypeId} {R : Value → Option (DataW H × List MemPlace)} {b n g : Nat} {t : TypeId} {cs : Array Value} {D : DataW H} (h : w.ownsMap Try.prog k R b n D) (hg : Blk w g t cs) : b ≠ g := by
  rintro rfl
  obtain ⟨es, clock, hb, _⟩ := h
  unfold Blk at hg
  rw [hb] at hg
  injection hg with hg
  cases hg
end

end Go.Proofs.Ytllkegonhghkcaa
