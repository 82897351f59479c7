/-
  What is handed in to the statements of layer 16, opened: nodes.
-/
import Derived.Test.YtlfcihanhfabmaaGreatDoorFrame16
import Derived.Test.YtlfcihanhfabmaaGreatDoorFrameO
namespace Go.Proofs.YtlfcihanhfabmaaGreatDoor
end Go.Proofs.YtlfcihanhfabmaaGreatDoor
