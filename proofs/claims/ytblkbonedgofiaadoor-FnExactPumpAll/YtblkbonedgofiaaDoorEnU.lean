/- Contract of the program's Pumped. -/
import Derived.Test.YtblkbonedgofiaaDoorEnQ
import Derived.Test.YtblkbonedgofiaaDoorCpFuel
import Derived.Test.YtblkbonedgofiaaDoorFuA
namespace Go.Proofs.YtblkbonedgofiaaDoor
open Go.RowKit

theorem ownFu_of {B g cap : Nat} {w : World} {L : List I2} {n : Nat} (hn : n = L.length) (h : OwnV w g (recCells 2 e2 L)) (hB : B ≤ g) (hl : L.length ≤ cap) (hm : cap ≤ maxLen) : OwnFu B w (.slice (some ⟨g, 0, none⟩) n cap) L :=
  ⟨_, cap, by rw [hn], hl, hm, fun _ => ⟨g, rfl, hB, h⟩⟩

set_option maxRecDepth 10000 in
set_option maxHeartbeats 4000000 in
theorem implPumped_any (v : Value) (L : List I2) (f t m : Int) (w : World) (h : R2 w v L) (hn : L.length ≤ 1048576) (hg : Laid w) :
    Calls Tryd.prog 9 #[v, v3 (f, t, m)] w fun e w' => ∃ a n cp, e = .returned (.tuple #[.slice a n cp, .int .i64 (pumpC L f t m)]) ∧ OwnFu w.heap.size w' (.slice a n cp) (pumpL L f t m) ∧ Below w.heap.size w w' := by
  have HV := hide h
  obtain ⟨ao, cap, rfl, hl, hm, hc⟩ := h
  unfold maxLen at hm
  clear hc
  have HW := hide (Below.alloc1 w (.cells #[.int .i64 f, .int .i64 t, .int .i64 m] 37))
  have HB := hide (ownV_alloc w #[.int .i64 f, .int .i64 t, .int .i64 m] 37)
  have HC := hide fun V (hV : Below w.heap.size w V) => ownCopyFuel_any ao L.length cap L V ((unhide HV).below hV) hn
  have HP := hide fun g V (hV : OwnV V g (recCells 2 e2 L)) => pump_any g L.length L f t m V hV (Nat.le_refl _) (by unfold maxLen; omega) hn
  have HK := hide fun V (hV : Laid V) => pumpCode_any (pumpC L f t m) V hV
  have HLL := hide (pumpL_len L f t m)
  have HLD := hide hg
  generalize pumpC L f t m = c at *
  generalize pumpL L f t m = M at *
  unfold v3 at HP ⊢
  clear hg
  obtain ⟨ev, eev⟩ : ∃ z, z = errV c := ⟨_, rfl⟩
  rw [← eev] at HP HK
  clear eev
  go_enter Tryd.func9, Tryd.ntmps9
  go_wp2_with fail
  refine (unhide HC _ (unhide HW)).mono ?_
  rintro e w1 ⟨rfl, ho, hb⟩
  have HR := hide ho
  have hgl := ho.lt
  replace HW := hide (Below.step (unhide HW) hb)
  replace HB := hide ((unhide HB).step hb)
  clear ho hb HC
  simp only [World.size_alloc] at HR hgl ⊢
  have c0 := (unhide HB).cell (i := 0) rfl
  have c1 := (unhide HB).cell (i := 1) rfl
  have c2 := (unhide HB).cell (i := 2) rfl
  go_wp2_with fail
  refine (unhide HP _ _ (unhide HR)).mono ?_
  rintro e w2 ⟨rfl, hk, ho⟩
  replace HW := hide ((unhide HW).trans (hk.below (B := w.heap.size) (unhide HW).size (fun b e => by omega)))
  replace HR := hide ho
  clear hk ho c0 c1 c2 HB HP
  go_wp2_with fail
  refine (unhide HK _ ((unhide HLD).below (unhide HW))).mono ?_
  rintro e w3 ⟨rfl, hb⟩
  replace HR := hide ((unhide HR).step hb)
  replace HW := hide (Below.step (unhide HW) hb)
  clear hb
  go_wp2
  refine bodyPost_ret (v := .tuple #[.slice (some ⟨w.heap.size + 1, 0, none⟩) L.length L.length, .int .i64 c]) (by simp [results, Tryd.results9, go_sem]) rfl ⟨_, _, _, rfl, ?_, unhide HW⟩
  exact ownFu_of (unhide HLL).symm (unhide HR) (by omega) (by rw [unhide HLL]; exact Nat.le_refl _) (by unfold maxLen; omega)

end Go.Proofs.YtblkbonedgofiaaDoor
