/- Boxes: wares: what a box is, asked through interfaces. -/
import Derived.Test.YtnfdokcpjcnknaaBxE
namespace Go.Proofs.Ytnfdokcpjcnknaa
open Go.RowKit

/-- What wareOf tells of a box. -/
def wareV (wt cl : Int) (co : Bool) : Value :=
  if co = true then (if 0 < cl then .iface 104 (.agg #[.int .i64 wt, .int .i64 cl]) else .iface 106 (.agg #[.int .i64 wt]))
  else (if 0 < cl then .iface 100 (.agg #[.int .i64 wt, .int .i64 cl]) else .iface 98 (.agg #[.int .i64 wt]))
theorem wareV_cd {wt cl : Int} (h : 0 < cl) : wareV wt cl true = .iface 104 (.agg #[.int .i64 wt, .int .i64 cl]) := by rw [wareV, if_pos rfl, if_pos h]
theorem wareV_c {wt cl : Int} (h : ¬ 0 < cl) : wareV wt cl true = .iface 106 (.agg #[.int .i64 wt]) := by rw [wareV, if_pos rfl, if_neg h]
theorem wareV_d {wt cl : Int} (h : 0 < cl) : wareV wt cl false = .iface 100 (.agg #[.int .i64 wt, .int .i64 cl]) := by rw [wareV, if_neg (by decide), if_pos h]
theorem wareV_p {wt cl : Int} (h : ¬ 0 < cl) : wareV wt cl false = .iface 98 (.agg #[.int .i64 wt]) := by rw [wareV, if_neg (by decide), if_neg h]

set_option maxRecDepth 10000 in
set_option maxHeartbeats 1600000 in
theorem wareOf_any (n : ByteArray) (wt cl : Int) (co : Bool) (fr to : Int) (w : World) :
    Calls Try.prog 69 #[vBox n wt cl co fr to] w fun e w' => e = .returned (wareV wt cl co) ∧ Below w.heap.size w w' := by
  unfold vBox
  cases co with
  | true =>
    by_cases h : 0 < cl
    · have E := hide (wareV_cd (wt := wt) h)
      go_enter Try.func69, Try.ntmps69
      go_wp2
      go_ret
      exact ⟨by rw [unhide E]; rfl, (((Below.refl _ _).alloc (Nat.le_refl _) _).alloc (by simp) _).alloc (by simp; omega) _⟩
    · have E := hide (wareV_c (wt := wt) h)
      go_enter Try.func69, Try.ntmps69
      go_wp2
      go_ret
      exact ⟨by rw [unhide E]; rfl, (((Below.refl _ _).alloc (Nat.le_refl _) _).alloc (by simp) _).alloc (by simp; omega) _⟩
  | false =>
    by_cases h : 0 < cl
    · have E := hide (wareV_d (wt := wt) h)
      go_enter Try.func69, Try.ntmps69
      go_wp2
      go_ret
      exact ⟨by rw [unhide E]; rfl, (((Below.refl _ _).alloc (Nat.le_refl _) _).alloc (by simp) _).alloc (by simp; omega) _⟩
    · have E := hide (wareV_p (wt := wt) h)
      go_enter Try.func69, Try.ntmps69
      go_wp2
      go_ret
      exact ⟨by rw [unhide E]; rfl, (((Below.refl _ _).alloc (Nat.le_refl _) _).alloc (by simp) _).alloc (by simp; omega) _⟩

theorem missing_some {want : Array (String × TypeId)} {got : Array Method} {n : String × TypeId} (h : (want.toList.filter fun (name, sig) => !got.any fun m => m.name == name && m.sig == sig) = [n]) : ∃ m, Instr.missingMethod want got = some m := by
  unfold Instr.missingMethod
  rw [h]
  simp only [List.map_cons, List.map_nil, List.partition, List.partition.loop]
  cases n.1.contains (Char.ofNat 46) <;> simp [Instr.least]
theorem assert_not {t x a : TypeId} {v : Value} {want : Array (String × TypeId)} {i : TypeInfo} {n : String × TypeId} {W : World} (hu : Try.prog.underlying a = some (.interface want)) (hi : Try.prog.info? t = some i) (hz : (zeroValue a).run Try.prog W = .ok .nilIface W)
    (h : (want.toList.filter fun (name, sig) => !i.methods.any fun m => m.name == name && m.sig == sig) = [n]) : (Instr.typeAssert (.iface t v) x a true).run Try.prog W = .ok (.tuple #[.nilIface, .bool false]) W := by
  obtain ⟨m, hm⟩ := missing_some h
  unfold Instr.typeAssert
  simp [run_underlying hu, typeInfo, hi, hm, hz, go_sem]

set_option maxRecDepth 100000 in
theorem asDangerCD (v : Value) (W : World) : (Instr.typeAssert (.iface 104 v) 93 111 true).run Try.prog W = .ok (.tuple #[.iface 104 v, .bool true]) W := by kernel_rfl
set_option maxRecDepth 100000 in
theorem Try.missDangerC : (Try.prog.info? 106).map (fun i => ((#[("loop.example/g00059/impl.class", 95)] : Array (String × TypeId)).toList.filter fun (name, sig) => !i.methods.any fun m => m.name == name && m.sig == sig)) = some [("loop.example/g00059/impl.class", 95)] := by kernel_rfl
set_option maxRecDepth 100000 in
theorem asDangerC (v : Value) (W : World) : (Instr.typeAssert (.iface 106 v) 93 111 true).run Try.prog W = .ok (.tuple #[.nilIface, .bool false]) W := by
  obtain ⟨i, hi, h⟩ := Option.map_eq_some_iff.1 Try.missDangerC
  exact assert_not (by kernel_rfl) hi (by kernel_rfl) h
set_option maxRecDepth 100000 in
theorem asDangerD (v : Value) (W : World) : (Instr.typeAssert (.iface 100 v) 93 111 true).run Try.prog W = .ok (.tuple #[.iface 100 v, .bool true]) W := by kernel_rfl
set_option maxRecDepth 100000 in
theorem Try.missDangerP : (Try.prog.info? 98).map (fun i => ((#[("loop.example/g00059/impl.class", 95)] : Array (String × TypeId)).toList.filter fun (name, sig) => !i.methods.any fun m => m.name == name && m.sig == sig)) = some [("loop.example/g00059/impl.class", 95)] := by kernel_rfl
set_option maxRecDepth 100000 in
theorem asDangerP (v : Value) (W : World) : (Instr.typeAssert (.iface 98 v) 93 111 true).run Try.prog W = .ok (.tuple #[.nilIface, .bool false]) W := by
  obtain ⟨i, hi, h⟩ := Option.map_eq_some_iff.1 Try.missDangerP
  exact assert_not (by kernel_rfl) hi (by kernel_rfl) h
set_option maxRecDepth 100000 in
theorem asColdCD (v : Value) (W : World) : (Instr.typeAssert (.iface 104 v) 93 108 true).run Try.prog W = .ok (.tuple #[.iface 104 v, .bool true]) W := by kernel_rfl
set_option maxRecDepth 100000 in
theorem asColdC (v : Value) (W : World) : (Instr.typeAssert (.iface 106 v) 93 108 true).run Try.prog W = .ok (.tuple #[.iface 106 v, .bool true]) W := by kernel_rfl
set_option maxRecDepth 100000 in
theorem Try.missColdD : (Try.prog.info? 100).map (fun i => ((#[("loop.example/g00059/impl.lastTier", 95)] : Array (String × TypeId)).toList.filter fun (name, sig) => !i.methods.any fun m => m.name == name && m.sig == sig)) = some [("loop.example/g00059/impl.lastTier", 95)] := by kernel_rfl
set_option maxRecDepth 100000 in
theorem asColdD (v : Value) (W : World) : (Instr.typeAssert (.iface 100 v) 93 108 true).run Try.prog W = .ok (.tuple #[.nilIface, .bool false]) W := by
  obtain ⟨i, hi, h⟩ := Option.map_eq_some_iff.1 Try.missColdD
  exact assert_not (by kernel_rfl) hi (by kernel_rfl) h
set_option maxRecDepth 100000 in
theorem Try.missColdP : (Try.prog.info? 98).map (fun i => ((#[("loop.example/g00059/impl.lastTier", 95)] : Array (String × TypeId)).toList.filter fun (name, sig) => !i.methods.any fun m => m.name == name && m.sig == sig)) = some [("loop.example/g00059/impl.lastTier", 95)] := by kernel_rfl
set_option maxRecDepth 100000 in
theorem asColdP (v : Value) (W : World) : (Instr.typeAssert (.iface 98 v) 93 108 true).run Try.prog W = .ok (.tuple #[.nilIface, .bool false]) W := by
  obtain ⟨i, hi, h⟩ := Option.map_eq_some_iff.1 Try.missColdP
  exact assert_not (by kernel_rfl) hi (by kernel_rfl) h

set_option maxRecDepth 100000 in
theorem methClassCD (wt cl : Int) (W : World) : (method 231 104 (.agg #[.int .i64 wt, .int .i64 cl]) "loop.example/g00059/impl.class").run Try.prog W = .ok (97, .agg #[.int .i64 wt, .int .i64 cl]) W := by kernel_rfl
set_option maxRecDepth 100000 in
theorem methClassD (wt cl : Int) (W : World) : (method 231 100 (.agg #[.int .i64 wt, .int .i64 cl]) "loop.example/g00059/impl.class").run Try.prog W = .ok (97, .agg #[.int .i64 wt, .int .i64 cl]) W := by kernel_rfl
set_option maxRecDepth 100000 in
theorem methTierCD (wt cl : Int) (W : World) : (method 231 104 (.agg #[.int .i64 wt, .int .i64 cl]) "loop.example/g00059/impl.lastTier").run Try.prog W = .ok (98, .agg #[]) W := by kernel_rfl
set_option maxRecDepth 100000 in
theorem methTierC (wt : Int) (W : World) : (method 231 106 (.agg #[.int .i64 wt]) "loop.example/g00059/impl.lastTier").run Try.prog W = .ok (98, .agg #[]) W := by kernel_rfl
set_option maxRecDepth 100000 in
theorem methWeightCD (wt cl : Int) (W : World) : (method 231 104 (.agg #[.int .i64 wt, .int .i64 cl]) "loop.example/g00059/impl.weight").run Try.prog W = .ok (96, .agg #[.int .i64 wt]) W := by kernel_rfl
set_option maxRecDepth 100000 in
theorem methWeightC (wt : Int) (W : World) : (method 231 106 (.agg #[.int .i64 wt]) "loop.example/g00059/impl.weight").run Try.prog W = .ok (96, .agg #[.int .i64 wt]) W := by kernel_rfl
set_option maxRecDepth 100000 in
theorem methWeightD (wt cl : Int) (W : World) : (method 231 100 (.agg #[.int .i64 wt, .int .i64 cl]) "loop.example/g00059/impl.weight").run Try.prog W = .ok (96, .agg #[.int .i64 wt]) W := by kernel_rfl
set_option maxRecDepth 100000 in
theorem methWeightP (wt : Int) (W : World) : (method 231 98 (.agg #[.int .i64 wt]) "loop.example/g00059/impl.weight").run Try.prog W = .ok (96, .agg #[.int .i64 wt]) W := by kernel_rfl

theorem plainWeight_any (wt : Int) (w : World) : Calls Try.prog 96 #[.agg #[.int .i64 wt]] w fun e w' => e = .returned (.int .i64 wt) ∧ Below w.heap.size w w' := by
  go_enter Try.func96, Try.ntmps96
  go_wp2
  go_ret
  exact ⟨rfl, Below.alloc1 _ _⟩
theorem dangerClass_any (wt cl : Int) (w : World) : Calls Try.prog 97 #[.agg #[.int .i64 wt, .int .i64 cl]] w fun e w' => e = .returned (.int .i64 cl) ∧ Below w.heap.size w w' := by
  go_enter Try.func97, Try.ntmps97
  go_wp2
  go_ret
  exact ⟨rfl, Below.alloc1 _ _⟩
theorem pluggedTier_any (w : World) : Calls Try.prog 98 #[.agg #[]] w fun e w' => e = .returned (.int .i64 1) ∧ Below w.heap.size w w' := by
  go_enter Try.func98, Try.ntmps98
  go_wp2
  go_ret
  exact ⟨rfl, by first | exact Below.refl _ _ | exact Below.alloc1 _ _⟩

set_option maxRecDepth 10000 in
set_option maxHeartbeats 1600000 in
theorem dangerOf_any (wt cl : Int) (co : Bool) (w : World) (hc : 0 ≤ cl) :
    Calls Try.prog 73 #[wareV wt cl co] w fun e w' => e = .returned (.int .i64 cl) ∧ Below w.heap.size w w' := by
  have HC := hide fun V => dangerClass_any wt cl V
  cases co with
  | true =>
    by_cases h : 0 < cl
    · rw [wareV_cd h]
      have hA := asDangerCD (.agg #[.int .i64 wt, .int .i64 cl]) w
      have hM := methClassCD wt cl w
      go_enter Try.func73, Try.ntmps73
      go_wp2_with fail
      refine (unhide HC _).mono ?_
      rintro e w1 ⟨rfl, hb⟩
      clear hA hM HC
      go_wp2
      go_ret
      exact ⟨rfl, hb⟩
    · rw [wareV_c h]
      have hA := asDangerC (.agg #[.int .i64 wt]) w
      go_enter Try.func73, Try.ntmps73
      go_wp2
      go_ret
      exact ⟨by rw [show cl = 0 by omega]; rfl, Below.refl _ _⟩
  | false =>
    by_cases h : 0 < cl
    · rw [wareV_d h]
      have hA := asDangerD (.agg #[.int .i64 wt, .int .i64 cl]) w
      have hM := methClassD wt cl w
      go_enter Try.func73, Try.ntmps73
      go_wp2_with fail
      refine (unhide HC _).mono ?_
      rintro e w1 ⟨rfl, hb⟩
      clear hA hM HC
      go_wp2
      go_ret
      exact ⟨rfl, hb⟩
    · rw [wareV_p h]
      have hA := asDangerP (.agg #[.int .i64 wt]) w
      go_enter Try.func73, Try.ntmps73
      go_wp2
      go_ret
      exact ⟨by rw [show cl = 0 by omega]; rfl, Below.refl _ _⟩

/-- The highest tier that a box may stand at. -/
def tierV (co : Bool) : Int := if co = true then 1 else 19
set_option maxRecDepth 10000 in
set_option maxHeartbeats 1600000 in
theorem lastTierOf_any (wt cl : Int) (co : Bool) (w : World) :
    Calls Try.prog 70 #[wareV wt cl co] w fun e w' => e = .returned (.int .i64 (tierV co)) ∧ Below w.heap.size w w' := by
  have HC := hide fun V => pluggedTier_any V
  cases co with
  | true =>
    by_cases h : 0 < cl
    · rw [wareV_cd h]
      have hA := asColdCD (.agg #[.int .i64 wt, .int .i64 cl]) w
      have hM := methTierCD wt cl w
      go_enter Try.func70, Try.ntmps70
      go_wp2_with fail
      refine (unhide HC _).mono ?_
      rintro e w1 ⟨rfl, hb⟩
      clear hA hM HC
      go_wp2
      go_ret
      exact ⟨rfl, hb⟩
    · rw [wareV_c h]
      have hA := asColdC (.agg #[.int .i64 wt]) w
      have hM := methTierC wt w
      go_enter Try.func70, Try.ntmps70
      go_wp2_with fail
      refine (unhide HC _).mono ?_
      rintro e w1 ⟨rfl, hb⟩
      clear hA hM HC
      go_wp2
      go_ret
      exact ⟨rfl, hb⟩
  | false =>
    by_cases h : 0 < cl
    · rw [wareV_d h]
      have hA := asColdD (.agg #[.int .i64 wt, .int .i64 cl]) w
      go_enter Try.func70, Try.ntmps70
      go_wp2
      go_ret
      exact ⟨rfl, Below.refl _ _⟩
    · rw [wareV_p h]
      have hA := asColdP (.agg #[.int .i64 wt]) w
      go_enter Try.func70, Try.ntmps70
      go_wp2
      go_ret
      exact ⟨rfl, Below.refl _ _⟩

end Go.Proofs.Ytnfdokcpjcnknaa
